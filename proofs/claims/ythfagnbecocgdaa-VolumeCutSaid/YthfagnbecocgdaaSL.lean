/- Repeat of one channel; New. -/
import Derived.Test.YthfagnbecocgdaaSK
namespace Go.Proofs.Ythfagnbecocgdaa
open Go.RowKit Go.Shelf Go.Deep

theorem wpList_copy_many {P : Program} {w : World} {ops : Array Oper} {rest : List Oper} {o : Oper} {a : Act} {Q : Exit → Act → World → Prop} (hgd : o.guard = none) (d s : Operand) (dT sT : TypeId)
    (ho : o.op = .call { callee := .builtin .copy, args := #[d, s], argTypes := #[dT, sT] }) (elem : TypeId) (size : Nat) (hu : P.underlying dT = some (.slice elem)) (hsz : (P.info? elem).map (·.size) = some size)
    (g off dLen dCap : Nat) (ad : Addr) (sLen sCap : Nat) (hd : a.eval d = .slice (some ⟨g, off, none⟩) dLen dCap) (hs : a.eval s = .slice (some ad) sLen sCap)
    (cur : Array Value) (t : TypeId) (hg : w.heap[g]? = some (.cells cur t (0, 0))) (cs : List Value) (m : Nat) (hm : m = Nat.min sLen dLen) (hn : cs.length = m * size)
    (hsrc : ∀ j v, cs[j]? = some v → w.cell? (ad.add j) = some v) (hfit : off + cs.length ≤ cur.size) (h1 : ∀ v ∈ cs, v.oneCell' = true)
    (h : wpList P ops Q rest (a.put o.dst (goInt m)) (w.setRow g (cur.toList.take off ++ cs ++ cur.toList.drop (off + cs.length)).toArray)) : wpList P ops Q (o :: rest) a w := by
  refine wpList_plain hgd fun K hK => ?_
  have hrun := run_copy_many (P := P) w dT sT o.type elem g off dLen dCap ad sLen sCap cur t cs m size hu hsz hg hm hn hsrc hfit h1
  unfold Oper.wp execOp
  simp only [ho, resolve, invoke, builtin, Sem.run_bind, Sem.run_pure, Result.andThen_ok, List.map_toArray, List.map_cons, List.map_nil, hd, hs, hrun]
  exact hK _ _ h
theorem op_copy_many {P : Program} {w : World} {o : Oper} {a : Act} {K : Act → World → Prop} {Q : Exit → Act → World → Prop} (d s : Operand) (dT sT : TypeId)
    (ho : o.op = .call { callee := .builtin .copy, args := #[d, s], argTypes := #[dT, sT] }) (elem : TypeId) (size : Nat) (hu : P.underlying dT = some (.slice elem)) (hsz : (P.info? elem).map (·.size) = some size)
    (g off dLen dCap : Nat) (ad : Addr) (sLen sCap : Nat) (hd : a.eval d = .slice (some ⟨g, off, none⟩) dLen dCap) (hs : a.eval s = .slice (some ad) sLen sCap)
    (cur : Array Value) (t : TypeId) (hg : w.heap[g]? = some (.cells cur t (0, 0))) (cs : List Value) (m : Nat) (hm : m = Nat.min sLen dLen) (hn : cs.length = m * size)
    (hsrc : ∀ j v, cs[j]? = some v → w.cell? (ad.add j) = some v) (hfit : off + cs.length ≤ cur.size) (h1 : ∀ v ∈ cs, v.oneCell' = true)
    (h : K (a.put o.dst (goInt m)) (w.setRow g (cur.toList.take off ++ cs ++ cur.toList.drop (off + cs.length)).toArray)) : Oper.wp P o a w K Q := by
  have hrun := run_copy_many (P := P) w dT sT o.type elem g off dLen dCap ad sLen sCap cur t cs m size hu hsz hg hm hn hsrc hfit h1
  unfold Oper.wp execOp
  simp only [ho, resolve, invoke, builtin, Sem.run_bind, Sem.run_pure, Result.andThen_ok, List.map_toArray, List.map_cons, List.map_nil, hd, hs, hrun]
  exact h
theorem Try.size80 : (Try.prog.info? 80).map (·.size) = some 6 := by kernel_rfl
def RepAns (n : Nat) (w : World) (e : Ending) (w' : World) : Prop := ∃ R Z, e = .returned (.slice (some ⟨R, 0, none⟩) n n) ∧ w.heap.size ≤ R ∧ w'.rowIs R 80 (n * 6) (oneF Z n) ∧ Below w.heap.size w w'

set_option maxHeartbeats 2000000 in
set_option maxRecDepth 100000 in
theorem repeat_any (n X0 : Nat) (Z0 : Nat → Value) (h1 : 1 ≤ n) (hn : n ≤ 8) (w : World) (hx : w.rowIs X0 80 6 (oneF Z0 1)) : Calls Try.prog 52 #[.slice (some ⟨X0, 0, none⟩) 1 1, .int .i64 n] w (RepAns n w) := by
  have h105 := mul_any n hn w
  obtain ⟨i1, hi1, hy0, hy1, hy2⟩ := info_parts Try.info80
  have HX := Lib.hid (fun (x : World) (hb : Below w.heap.size w x) (j : Nat) (hj : j < 6) => show x.cell? ⟨X0, j, none⟩ = some (one1.val (j % 6)) from by
    have := (Same.of_below hb).cell (hx.cell (i := j) hj)
    rw [this]; unfold oneF; rw [if_pos (by omega)])
  have d0 : ¬ (n : Int) < 0 := by omega
  have d1 : ¬ (9223372036854775807 : Int) < (n : Int) := by omega
  clear hx
  go_enter Try.func52, Try.ntmps52
  go_upto_region 6 with (go_at_call 105; (with_reducible refine h105.mono ?_); rintro e w1 ⟨rfl, hb1⟩; have HB1 := Lib.hid hb1; clear hb1)
  obtain ⟨w2, hmk, hown, hgr⟩ := run_makeSlice_full (P := Try.prog) (w := w1) w1.heap.size 81 80 i1 _ 6 Try.underlying81 hi1 hy0 hy1 .i64 .i64 n (by omega) (by rw [hy2]; omega) (by unfold maxLen; omega) (Nat.le_refl _)
  obtain ⟨R, hR⟩ : ∃ R, w1.heap.size = R := ⟨_, rfl⟩
  rw [hR] at hmk hown
  obtain ⟨cur, hcu, hcs⟩ : ∃ cur : Array Value, w2.heap[R]? = some (.cells cur 80 (0, 0)) ∧ cur.size = n * 6 := by
    rcases hown.2 with ⟨h, _⟩ | ⟨g, cap, cur, h, _, hg, _, _, hc, _⟩
    · simp at h
    · simp only [Value.slice.injEq, Option.some.injEq, Addr.mk.injEq, and_true, true_and] at h
      obtain ⟨rfl, rfl⟩ := h
      exact ⟨cur, hg, hc⟩
  have hb2 : Below w.heap.size w w2 := HB1.out.grown hgr HB1.out.size (fun k e => by cases e)
  obtain ⟨Z, hZ⟩ : ∃ Z : Nat → Value, Z = fun i => cur.getD i undef := ⟨_, rfl⟩
  have hrow : w2.rowIs R 80 (n * 6) (oneF Z 0) := ⟨cur, hcu, hcs, fun i hi => by rw [hZ]; unfold oneF; rw [if_neg (by omega)]; simp [Array.getD, show i < cur.size by omega]⟩
  have hrow2 := one_row (m := 1) hrow (by omega) cur hcu
  simp only [Nat.zero_mul, List.take_zero, List.nil_append, Nat.zero_add] at hrow2
  have hX2 := HX.out w2 hb2
  have HB2 := Lib.hid hb2
  have HR := Lib.hid hrow2
  have HRl := Lib.hid (show w.heap.size ≤ R by have := HB1.out.size; omega)
  have HX2 := Lib.hid hX2
  clear hown hgr h105 hrow hZ hb2 hrow2 hX2 hR
  have hsz2 : 0 * 6 + (oneL 1).length ≤ cur.size := by rw [oneL_len]; omega
  go_wp2_with (refine wpList_copy_many rfl (.tmp 31) (.tmp 32) 81 81 rfl 80 6 Try.underlying81 Try.size80 R (0 * 6) n n ⟨X0, 0, none⟩ 1 1 rfl rfl cur 80 hcu (oneL 1) 1 ?c1 ?c2 ?c3 hsz2 (oneL_one 1) ?_)
  case c1 => show 1 = min 1 n; omega
  case c2 => rw [oneL_len]
  case c3 =>
    intro j x hj
    have hl : j < 1 * 6 := by
      have := (List.getElem?_eq_some_iff.1 hj).1
      rwa [oneL_len] at this
    rw [oneL_at hl] at hj
    cases hj
    rw [add_at, Nat.zero_add]
    exact HX2.out j hl
  generalize hw3 : w2.setRow R _ = w3
  rw [hw3] at HR
  have HB3 := Lib.hid (show Below w.heap.size w w3 by rw [← hw3]; exact HB2.out.grown (grown_setRow _ _ _) HB2.out.size (fun k e => by cases e; exact HRl.out))
  clear hw3 hcu hcs hsz2 hmk HX2 HB2 HX HB1
  go_wp2_with fail
  go_loopw [8] (fun i wr => ∃ k : Nat, i = .int .i64 k ∧ 1 ≤ k ∧ k ≤ n ∧ wr.rowIs R 80 (n * 6) (oneF Z k) ∧ Below w.heap.size w wr) (fun i _ => n - (intOf i).toNat)
  case atStart => exact ⟨1, by simp [goInt], Nat.le_refl _, h1, HR.out, HB3.out⟩
  case round =>
    clear HR HB3
    obtain ⟨k, rfl, hk1, hkn, hrow, hbl⟩ := hrel
    by_cases hlt : k < n
    · have w4 : (k : Int) < (n : Int) := by omega
      have w5 : (k : Int) ≤ (n : Int) := by omega
      obtain ⟨cur, hcu, hcs, hat⟩ := id hrow
      obtain ⟨m, hm⟩ : ∃ m, m = Nat.min k (n - k) := ⟨_, rfl⟩
      have hmk : m ≤ k ∧ m ≤ n - k ∧ 1 ≤ m := by rw [hm]; simp only [Nat.min_def]; split <;> omega
      obtain ⟨m1, m2, m3⟩ := hmk
      have hrow2 := one_row (m := m) hrow (by omega) cur hcu
      have hsrc : ∀ j, j < m * 6 → wr.cell? ⟨R, j, none⟩ = some (one1.val (j % 6)) := fun j hj => by
        rw [hrow.cell (by omega)]; unfold oneF; rw [if_pos (by omega)]
      have HSRC := Lib.hid hsrc
      have hsz2 : k * 6 + (oneL m).length ≤ cur.size := by rw [oneL_len]; omega
      have hbel : Below w.heap.size w (wr.drew.setRow R (cur.toList.take (k * 6) ++ oneL m ++ cur.toList.drop (k * 6 + (oneL m).length)).toArray) := hbl.drew.grown (grown_setRow _ _ _) hbl.size (fun q e => by cases e; exact HRl.out)
      have HBL := Lib.hid hbel
      have HROW := Lib.hid (show (wr.drew.setRow R (cur.toList.take (k * 6) ++ oneL m ++ cur.toList.drop (k * 6 + (oneL m).length)).toArray).rowIs R 80 (n * 6) (oneF Z (k + m)) from hrow2)
      have hcu2 : wr.drew.heap[R]? = some (.cells cur 80 (0, 0)) := hcu
      have HCU := Lib.hid hcu2
      have HM := Lib.hid hm
      clear hat hrow2 hsrc hbel hrow hbl hcu hcu2 hcs hm
      go_upto_region 9 with fail
      refine region_T (S := fun _ => True) [8, 9] (by kernel_rfl) trivial (fun _ => ?_)
      refine anyT_take (i := 0) (v := ?_) rfl (by kernel_rfl) (by kernel_rfl) (by kernel_rfl) (by kernel_rfl) (fun _ _ _ h => h) (Or.inl ⟨by rfl, ?_⟩) trivial ?_
      rotate_left
      focus ((intro wq hSw; go_simp); try with_reducible rfl)
      try simp only [Act.put, List.getElem_toArray, List.getElem_cons_succ, List.getElem_cons_zero, List.setIfInBounds_toArray, List.set_cons_zero, List.set_cons_succ]
      refine anyT_take (i := 1) (v := ?_) rfl (by kernel_rfl) (by kernel_rfl) (by kernel_rfl) (by kernel_rfl) (fun _ _ _ h => h) (Or.inl ⟨by rfl, ?_⟩) trivial ?_
      rotate_left
      focus ((intro wq hSw; go_simp); try with_reducible rfl)
      try simp only [Act.put, List.getElem_toArray, List.getElem_cons_succ, List.getElem_cons_zero, List.setIfInBounds_toArray, List.set_cons_zero, List.set_cons_succ]
      refine anyT_take (i := 2) (v := ?_) rfl (by kernel_rfl) (by kernel_rfl) (by kernel_rfl) (by kernel_rfl) (fun _ _ _ h => h) (Or.inl ⟨by rfl, ?_⟩) trivial ?_
      rotate_left
      focus ((intro wq hSw; go_simp); try with_reducible rfl)
      try simp only [Act.put, List.getElem_toArray, List.getElem_cons_succ, List.getElem_cons_zero, List.setIfInBounds_toArray, List.set_cons_zero, List.set_cons_succ]
      refine anyT_take (i := 3) (v := ?_) rfl (by kernel_rfl) (by kernel_rfl) (by kernel_rfl) (by kernel_rfl) (fun _ _ _ h => h) (Or.inl ⟨by rfl, ?_⟩) trivial ?_
      rotate_left
      focus ((intro wq hSw; go_simp); try with_reducible rfl)
      try simp only [Act.put, List.getElem_toArray, List.getElem_cons_succ, List.getElem_cons_zero, List.setIfInBounds_toArray, List.set_cons_zero, List.set_cons_succ]
      refine anyT_take (i := 4) (v := ?_) rfl (by kernel_rfl) (by kernel_rfl) (by kernel_rfl) (by kernel_rfl) (fun _ _ _ h => h) (Or.inl ⟨by rfl, ?_⟩) trivial ?_
      rotate_left
      focus ((intro wq hSw; go_simp); try with_reducible rfl)
      try simp only [Act.put, List.getElem_toArray, List.getElem_cons_succ, List.getElem_cons_zero, List.setIfInBounds_toArray, List.set_cons_zero, List.set_cons_succ]
      refine anyT_take (i := 5) (v := ?_) rfl (by kernel_rfl) (by kernel_rfl) (by kernel_rfl) (by kernel_rfl) (fun _ _ _ h => h) (Or.inl ⟨by rfl, ?_⟩) trivial ?_
      rotate_left
      focus ((intro wq hSw; go_simp); try with_reducible rfl)
      try simp only [Act.put, List.getElem_toArray, List.getElem_cons_succ, List.getElem_cons_zero, List.setIfInBounds_toArray, List.set_cons_zero, List.set_cons_succ]
      refine anyT_take (i := 6) (v := ?_) rfl (by kernel_rfl) (by kernel_rfl) (by kernel_rfl) (by kernel_rfl) (fun _ _ _ h => h) (Or.inl ⟨by rfl, ?_⟩) trivial ?_
      rotate_left
      focus ((intro wq hSw; go_simp); try with_reducible rfl)
      try simp only [Act.put, List.getElem_toArray, List.getElem_cons_succ, List.getElem_cons_zero, List.setIfInBounds_toArray, List.set_cons_zero, List.set_cons_succ]
      refine anyT_one (i := 7) (by kernel_rfl) rfl (fun K hK => ?_)
      refine op_copy_many (.tmp 41) (.tmp 44) 81 81 rfl 80 6 Try.underlying81 Try.size80 R (k * 6) (n - k) (n - k) ⟨R, 0, none⟩ k n ?e1 ?e2 cur 80 HCU.out (oneL m) m HM.out (oneL_len m) ?e3 hsz2 (oneL_one m) ?_
      case e1 => first | rfl | (simp [Act.eval]; omega)
      case e2 => first | rfl | (simp [Act.eval]; omega)
      case e3 =>
        intro j x hj
        have hl : j < m * 6 := by
          have := (List.getElem?_eq_some_iff.1 hj).1
          rwa [oneL_len] at this
        rw [oneL_at hl] at hj
        cases hj
        rw [add_at, Nat.zero_add]
        exact HSRC.out j hl
      refine hK.out _ _ (fun _ => trivial) ?_
      clear hK K
      generalize hw4 : wr.drew.setRow R _ = w4'
      rw [hw4] at HBL HROW
      clear hw4
      try simp only [Act.put, List.getElem_toArray, List.getElem_cons_succ, List.getElem_cons_zero, List.setIfInBounds_toArray, List.set_cons_zero, List.set_cons_succ]
      refine anyT_one (i := 8) (by kernel_rfl) rfl (fun K hK => ?_)
      go_simp
      refine hK.out _ _ (fun h => by cases h) ?_
      clear hK K
      try simp only [Act.put, List.getElem_toArray, List.getElem_cons_succ, List.getElem_cons_zero, List.setIfInBounds_toArray, List.set_cons_zero, List.set_cons_succ]
      refine anyT_one (i := 9) (by kernel_rfl) rfl (fun K hK => ?_)
      go_simp
      refine hK.out _ _ (fun h => by cases h) ?_
      clear hK K
      refine anyT_done (by kernel_rfl) ?_ _
      go_wp2_with fail
      go_roundw
      case rel => exact ⟨k + m, by rw [IntWalk.i64_in _ (by omega), show ((k + m : Nat) : Int) = (k : Int) + (m : Int) by omega], by omega, by omega, HROW.out, HBL.out⟩
      case measure => rw [IntWalk.i64_in _ (by omega)]; simp [intOf]; omega
    · have w4 : ¬ (k : Int) < (n : Int) := by omega
      obtain rfl : k = n := by omega
      have HF := Lib.hid (And.intro hrow hbl)
      clear hrow hbl
      go_wp2_with fail
      go_ret
      exact ⟨R, Z, rfl, HRl.out, HF.out.1, HF.out.2⟩

theorem Try.underlying80s : (Try.prog.info? 84).map (·.size) = some 1 := by kernel_rfl
set_option maxHeartbeats 1000000 in
set_option maxRecDepth 100000 in
theorem new49_yes (n Bn : Nat) (h1 : 1 ≤ n) (hn : n ≤ 8) (w : World) (k0 : w.cell? ⟨Bn, 0, none⟩ = some (.int .i64 n)) : Calls Try.prog 49 #[at0 Bn] w (CopyAns (List.replicate n one1) w) := by
  have HM := Lib.hid (must_yes 7)
  have H51 := Lib.hid (fun (x : World) => steady_any 65536 x)
  have HK := Lib.hid (fun (x : World) (hx : Below w.heap.size w x) => (Same.of_below hx).cell k0)
  have H52 := Lib.hid (fun (x : World) (X0 : Nat) (Z0 : Nat → Value) (hx : x.rowIs X0 80 6 (oneF Z0 1)) => repeat_any n X0 Z0 h1 hn x hx)
  have d0 : (1 : Int) ≤ (n : Int) := by omega
  have d1 : (n : Int) ≤ 8 := by omega
  have d2 : decide ((1 : Int) ≤ (n : Int)) = true := decide_eq_true d0
  have d3 : decide ((n : Int) ≤ 8) = true := decide_eq_true d1
  have d4 : decide (n ≤ 8) = true := decide_eq_true hn
  have d5 : decide (1 ≤ n) = true := decide_eq_true h1
  unfold rampV at H51
  go_enter Try.func49, Try.ntmps49
  go_upto_region 3 with (first
    | (go_at_call 50; (with_reducible refine (HM.out _).mono ?_); rintro e w1 ⟨rfl, rfl⟩)
    | (go_at_call 51; (with_reducible refine (H51.out _).mono ?_); rintro e w1 ⟨rfl, hb1⟩; have HB1 := Lib.hid hb1; have k1 := HK.out _ hb1; clear hb1))
  obtain ⟨X, hX⟩ : ∃ X, (w1.alloc (.cells #[.int .i64 0, .int .i64 65536, .int .i64 0, .int .i64 0, .int .i64 65536, .bool false] 80)).alloc (.cells #[.int .i64 0, .int .i64 65536, .int .i64 0, .int .i64 0, .int .i64 65536, .bool false] 80) = X := ⟨_, rfl⟩
  have hbX : Below w.heap.size w X := by rw [← hX]; exact (HB1.out.alloc HB1.out.size _).alloc (by have := HB1.out.size; simp; omega) _
  have hrow : X.rowIs (w1.heap.size + 1) 80 6 (oneF (fun _ => undef) 1) := by
    have := World.rowIs_alloc (w1.alloc (.cells #[.int .i64 0, .int .i64 65536, .int .i64 0, .int .i64 0, .int .i64 65536, .bool false] 80)) #[.int .i64 0, .int .i64 65536, .int .i64 0, .int .i64 0, .int .i64 65536, .bool false] 80 (oneF (fun _ => undef) 1) (fun i hi => by
      simp at hi
      match i with | 0 => rfl | 1 => rfl | 2 => rfl | 3 => rfl | 4 => rfl | 5 => rfl | i + 6 => omega)
    rw [hX] at this
    simpa using this
  have h52 := H52.out X (w1.heap.size + 1) _ hrow
  have k2 := HK.out _ hbX
  have HBX := Lib.hid hbX
  clear hbX hrow
  subst hX
  go_wp2_with (go_at_call 52; (with_reducible refine h52.mono ?_); rintro e w2 ⟨R, Z, rfl, hR, hrw, hb2⟩; have HF := Lib.hid (And.intro hR hrw); have HB2 := Lib.hid (Below.then HBX.out (Nat.le_refl _) hb2); clear hR hrw hb2)
  go_ret
  obtain ⟨hR, hrw⟩ := HF.out
  refine ⟨w2.heap.size, R, rfl, ⟨⟨n, by simp [go_sem]⟩, fun e => by have := hrw.lt; omega, n * 6, _, hrw.alloc _, by simp; omega, fun i hi j hj => ?_⟩, ⟨HB2.out.size, Nat.le_trans HBX.out.size hR⟩, HB2.out.alloc HB2.out.size _⟩
  simp at hi
  unfold oneF
  rw [if_pos (by omega), show (i * 6 + j) % 6 = j by omega]
  simp [chAt, List.getD, hi]
set_option maxRecDepth 100000 in
theorem new_yes (n : Nat) (h1 : 1 ≤ n) (hn : n ≤ 8) (w : World) : Calls Try.prog 10 #[.int .i64 n] w fun e w' => ∃ P R, e = .returned (.tuple #[.pointer (some ⟨P, 0, none⟩), .int .i64 0]) ∧ VolAt P R (List.replicate n one1) w' ∧ (w.heap.size ≤ P ∧ w.heap.size ≤ R) ∧ Below w.heap.size w w' := by
  have hmf := makes
  have he := enters_of Try.func49 (by kernel_rfl) rfl
  have hbel : Below w.heap.size w (w.alloc (.cells #[.int .i64 n] 3)) := (Below.refl _ w).alloc (Nat.le_refl _) _
  have hf := fitted48_new 49 #[at0 w.heap.size] (w.alloc (.cells #[.int .i64 n] 3)) (fun u x => ∃ P R, u = .pointer (some ⟨P, 0, none⟩) ∧ VolAt P R (List.replicate n one1) x ∧ w.heap.size + 2 ≤ P ∧ w.heap.size + 2 ≤ R)
    (fun u w1 w2 hk ⟨P, R, h1, h2, h3, h4⟩ => ⟨P, R, h1, h2.of_blocks (hk P (by simp; omega) h2.lt.1) (hk R (by simp; omega) h2.lt.2), h3, h4⟩) (he _)
    ((new49_yes n w.heap.size h1 hn _ (by simp [go_sem])).mono (by
      rintro e w' ⟨P, R, rfl, g1, g2, g3⟩
      exact ⟨_, rfl, ⟨P, R, rfl, g1, by simpa using g2.1, by simpa using g2.2⟩, g3⟩))
  have HBL := Lib.hid hbel
  clear hbel
  go_enter Try.func10, Try.ntmps10
  go_wp2_with (go_at_call 48; (with_reducible refine hf.mono ?_); rintro e w1 ⟨u, rfl, ⟨P, R, rfl, g1, g2, g3⟩, hb1⟩; have HU := Lib.hid (And.intro g1 (And.intro g2 g3)); clear g1 g2 g3)
  go_ret2
  exact ⟨P, R, rfl, HU.out.1, ⟨by have := HU.out.2.1; omega, by have := HU.out.2.2; omega⟩, Below.then HBL.out (Nat.le_refl _) hb1⟩
end Go.Proofs.Ythfagnbecocgdaa
