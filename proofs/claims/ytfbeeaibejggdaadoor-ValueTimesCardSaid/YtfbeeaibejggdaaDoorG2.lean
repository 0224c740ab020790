/- The writer at a value, by what it does at a value's body. -/
import Derived.Test.YtfbeeaibejggdaaDoorFB
namespace Go.Proofs.YtfbeeaibejggdaaDoor
open Go.RowKit

theorem Tryd.res35 : Tryd.f35.results = #[] := by kernel_rfl

theorem padded2_any (n : Nat) (w : World) (h : n ≤ 1000000) : Calls Tryd.prog 60 #[.int .i64 n] w fun e w' => e = .returned (.int .i64 (((n : Int) + 7) / 8 * 8)) ∧ w = w' := by
  have h1 : 0 ≤ ((n : Int) + 7) / 8 := by omega
  have h2 : ((n : Int) + 7) / 8 * 8 ≤ 2000000 := by omega
  have h3 : 0 ≤ (n : Int) + 7 := by omega
  have h4 : ((n : Int) + 7) / 8 ≤ 2000000 := by omega
  go_enter Tryd.func60, Tryd.ntmps60
  go_wp2_with fail
  go_ret
  exact ⟨rfl, rfl⟩

set_option maxRecDepth 100000 in
set_option maxHeartbeats 1600000 in
theorem value_50 (kd n : Int) (s : ByteArray) (keys : List Int) (kids : List T) (v : Value) (W0 W : World) (bw bb B : Nat) (xs bd : List Int) (hr : Rep W0 (.mk kd n s keys kids) v)
    (hbb : bb < B) (hbn : bb ≠ bw) (htb : W.heap[bb]? = some tabF) (hk0 : 0 ≤ kd) (hk1 : kd < 11)
    (hF : ∀ w : World, w.heap[bb]? = some tabF → w.cell? ⟨bb, kd.toNat, none⟩ = some (.func (.func 50) #[] #[]))
    (hW : Wr W bw bb B xs) (hx : xs.length % 8 = 0) (hl : xs.length + bd.length + 8 ≤ 1000000) (hB : B ≤ W.heap.size)
    (hbody : ∀ w1, Wr w1 bw bb B (xs ++ digs (IntKind.u64.wrap 0) 4 ++ digs (IntKind.u64.wrap kd) 4) → Fr B bw W w1 →
      Calls Tryd.prog 50 #[.pointer (some ⟨bw, 0, none⟩), v] w1 fun e w2 => e = .returned (.tuple #[]) ∧ Wr w2 bw bb B (xs ++ digs (IntKind.u64.wrap 0) 4 ++ digs (IntKind.u64.wrap kd) 4 ++ bd) ∧ Fr B bw W w2) :
    Calls Tryd.prog 35 #[.pointer (some ⟨bw, 0, none⟩), v] W fun e W' => e = .returned (.tuple #[]) ∧
      Wr W' bw bb B (put (xs ++ digs (IntKind.u64.wrap 0) 4 ++ digs (IntKind.u64.wrap kd) 4 ++ bd) xs.length bd.length 4 ++ digs (IntKind.u64.wrap 0) ((8 - bd.length % 8) % 8)) ∧ Fr B bw W W' := by
  unfold Rep at hr
  obtain ⟨ka, va, kc, vc, rfl, _⟩ := hr
  have hbw := hW.1
  obtain ⟨d0, hd0⟩ : ∃ d, digs (IntKind.u64.wrap 0) 4 = d := ⟨_, rfl⟩
  obtain ⟨dk, hdk⟩ : ∃ d, digs (IntKind.u64.wrap kd) 4 = d := ⟨_, rfl⟩
  have l0 : d0.length = 4 := by rw [← hd0, digs_len]
  have lk : dk.length = 4 := by rw [← hdk, digs_len]
  rw [hd0, hdk] at hbody ⊢
  obtain ⟨box, hbox⟩ : ∃ box, box = Obj.cells #[.int .i64 kd, .int .i64 n, .string s, .slice ka keys.length kc, .slice va kids.length vc] 25 (0, 0) := ⟨_, rfl⟩
  have hnew := heap_alloc_new W box
  have hne : W.heap.size ≠ bw := by omega
  have hn1 := number_any 0 4 bw bb B xs (W.alloc box) (hW.alloc hB box) (by omega) (by omega) (by simp; omega)
  have e4 : ((4 : Nat) : Int) = 4 := rfl
  rw [hd0, e4] at hn1
  have hn2 := fun (w1 : World) (hw1 : Wr w1 bw bb B (xs ++ d0)) (hs : B ≤ w1.heap.size) => number_any kd 4 bw bb B _ w1 hw1 (by rw [List.length_append, l0]; omega) (by omega) hs
  rw [hdk, e4] at hn2
  -- the length put in
  obtain ⟨ys, hys⟩ : ∃ ys, xs ++ d0 ++ dk ++ bd = ys := ⟨_, rfl⟩
  have hyl : ys.length = xs.length + 8 + bd.length := by rw [← hys]; simp only [List.length_append]; omega
  have hyc : (ys.length : Int) - (xs.length : Nat) - 8 = (bd.length : Nat) := by omega
  obtain ⟨zs, hzs⟩ : ∃ zs, put ys xs.length (bd.length : Nat) 4 = zs := ⟨_, rfl⟩
  have hzl : zs.length = xs.length + 8 + bd.length := by rw [← hzs, put_len _ _ _ _ (by omega), hyl]
  rw [hys] at hbody ⊢
  rw [hzs]
  have hsl := fun (w3 : World) (hw3 : Wr w3 bw bb B ys) (hs : B ≤ w3.heap.size) => setLength_any xs.length bw bb B ys w3 hw3 (by omega) (by omega) hs
  rw [hyc, hzs] at hsl
  obtain ⟨L, hL⟩ : ∃ L : Nat, zs.length = L := ⟨_, rfl⟩
  obtain ⟨p, hp⟩ : ∃ p : Nat, (8 - bd.length % 8) % 8 = p := ⟨_, rfl⟩
  rw [hp]
  have hLm : L ≤ 1000000 := by omega
  have hp8 : p ≤ 8 := by omega
  have hpad : IntKind.i64.wrap (((L : Int) + 7) / 8 * 8 - L) = (p : Int) := by
    rw [show ((L : Int) + 7) / 8 * 8 - L = (p : Int) by omega]
    exact IntWalk.i64_in _ (by omega)
  have hn3 := fun (w4 : World) (hw4 : Wr w4 bw bb B zs) (hs : B ≤ w4.heap.size) => number_any 0 p bw bb B _ w4 hw4 (by omega) (by omega) hs
  have hpd := fun (w4 : World) => padded2_any L w4 (by omega)
  have hA := (hW.alloc hB box)
  obtain ⟨_, u, hhA, hownA⟩ := hA
  obtain ⟨ou, cu, rfl⟩ := own_len hownA
  obtain ⟨cA, _, _⟩ := wr_cells hhA
  subst hbox
  have HX := Lib.hid (And.intro hx hl)
  have HFF := Lib.hid hF
  have HBD := Lib.hid hbody
  have HTB := Lib.hid htb
  have HY := Lib.hid (And.intro hyl (And.intro hzl hL))
  have HP := Lib.hid hp
  have HPAD := Lib.hid hpad
  have HPD := Lib.hid hpd
  have HN3 := Lib.hid hn3
  have HSL := Lib.hid hsl
  clear hx hl hF hbody htb hownA hhA hW hd0 hdk hys hyl hyc hzs hzl hL hp hpad hpd hn3 hsl l0 lk
  go_enter Tryd.func35, Tryd.ntmps35
  go_upto_region 4 with (first
    | (go_at_call 52; with_reducible refine hn1.mono ?_; rintro e w1 ⟨rfl, hw1, hf1⟩; obtain ⟨z0, z1, z2, z3, z4⟩ := five_cells (hf1.boxed hne hnew); have hs1 : B ≤ w1.heap.size := by (have := hf1.size; simp at this; omega))
    | (go_at_call 52; have hn4 := hn2 w1 hw1 hs1; with_reducible refine hn4.mono ?_; rintro e w2 ⟨rfl, hw2, hf2⟩; obtain ⟨y0, y1, y2, y3, y4⟩ := five_cells (hf2.boxed hne (hf1.boxed hne hnew))))
  have hfr := ((Fr.alloc B bw W _).trans hf1).trans hf2
  have ht2 := hfr.old hbb hbn HTB.out
  have hfc := HFF.out w2 ht2
  have hb2 := HBD.out w2.drew (show Wr w2.drew bw bb B _ from hw2) (hfr.trans ⟨rfl, rfl, rfl, Nat.le_refl _, fun _ _ _ _ => rfl⟩)
  obtain ⟨_, u2, hh2, hown2⟩ := id hw2
  obtain ⟨cw0, cw1, cwf⟩ := wr_cells hh2
  have hs2 := Nat.le_trans hs1 hf2.size
  clear hown2 hh2 ht2 hfr hn1 hn2
  go_still_tail 10, (by kernel_rfl)
  change wpList _ _ _ _ _ w2.drew
  go_upto_region 6 with (first
    | (go_at_call 50; with_reducible refine hb2.mono ?_; rintro e w3 ⟨rfl, hw3, hf3⟩; have hs3 := HSL.out w3 hw3 (Nat.le_trans hB hf3.size))
    | (go_at_call 59; with_reducible refine hs3.mono ?_; rintro e w4 ⟨rfl, hw4, hf4⟩))
  have hsz4 : B ≤ w4.heap.size := Nat.le_trans hB (Nat.le_trans hf3.size hf4.size)
  have HFR := Lib.hid ((hf3.trans hf4).trans (⟨rfl, rfl, rfl, Nat.le_refl _, fun _ _ _ _ => rfl⟩ : Fr B bw w4 w4.drew))
  have hn6 := HN3.out w4.drew (show Wr w4.drew bw bb B zs from hw4) hsz4
  obtain ⟨_, u4, hh4, hown4⟩ := id hw4
  obtain ⟨o4, k4, rfl⟩ := own_len hown4
  rw [HY.out.2.2] at hh4
  obtain ⟨cx0, cx1, cxf⟩ := wr_cells hh4
  have hpad := HPAD.out
  have hpd : Calls Tryd.prog 60 #[Value.int IntKind.i64 ↑L] w4.drew fun e w' => e = Ending.returned (Value.int IntKind.i64 ((↑L + 7) / 8 * 8)) ∧ w' = w4.drew := (HPD.out w4.drew).mono fun e w' ⟨h1, h2⟩ => ⟨h1, h2.symm⟩
  clear hown4 hh4 hw4 hf3 hf4 hs3 hw3 hb2 hn4 hw2 hw1 hf1 hf2
  refine wp_region_still_tail 13 (by kernel_rfl) (by kernel_rfl) ?_
  simp only [List.take_succ_cons, List.take_zero, List.drop_succ_cons, List.drop_zero]
  repeat still_step
  still_call hpd
  repeat still_step
  refine wpStill_nil ?_
  change wpList _ _ _ _ _ w4.drew
  go_wp2_with (go_at_call 52; with_reducible refine hn6.mono ?_; rintro e w5 ⟨rfl, hw5, hf5⟩)
  exact void_end Tryd.res35 rfl ⟨rfl, hw5, HFR.out.trans hf5⟩

set_option maxRecDepth 100000 in
set_option maxHeartbeats 1600000 in
theorem value_51 (kd n : Int) (s : ByteArray) (keys : List Int) (kids : List T) (v : Value) (W0 W : World) (bw bb B : Nat) (xs bd : List Int) (hr : Rep W0 (.mk kd n s keys kids) v)
    (hbb : bb < B) (hbn : bb ≠ bw) (htb : W.heap[bb]? = some tabF) (hk0 : 0 ≤ kd) (hk1 : kd < 11)
    (hF : ∀ w : World, w.heap[bb]? = some tabF → w.cell? ⟨bb, kd.toNat, none⟩ = some (.func (.func 51) #[] #[]))
    (hW : Wr W bw bb B xs) (hx : xs.length % 8 = 0) (hl : xs.length + bd.length + 8 ≤ 1000000) (hB : B ≤ W.heap.size)
    (hbody : ∀ w1, Wr w1 bw bb B (xs ++ digs (IntKind.u64.wrap 0) 4 ++ digs (IntKind.u64.wrap kd) 4) → Fr B bw W w1 →
      Calls Tryd.prog 51 #[.pointer (some ⟨bw, 0, none⟩), v] w1 fun e w2 => e = .returned (.tuple #[]) ∧ Wr w2 bw bb B (xs ++ digs (IntKind.u64.wrap 0) 4 ++ digs (IntKind.u64.wrap kd) 4 ++ bd) ∧ Fr B bw W w2) :
    Calls Tryd.prog 35 #[.pointer (some ⟨bw, 0, none⟩), v] W fun e W' => e = .returned (.tuple #[]) ∧
      Wr W' bw bb B (put (xs ++ digs (IntKind.u64.wrap 0) 4 ++ digs (IntKind.u64.wrap kd) 4 ++ bd) xs.length bd.length 4 ++ digs (IntKind.u64.wrap 0) ((8 - bd.length % 8) % 8)) ∧ Fr B bw W W' := by
  unfold Rep at hr
  obtain ⟨ka, va, kc, vc, rfl, _⟩ := hr
  have hbw := hW.1
  obtain ⟨d0, hd0⟩ : ∃ d, digs (IntKind.u64.wrap 0) 4 = d := ⟨_, rfl⟩
  obtain ⟨dk, hdk⟩ : ∃ d, digs (IntKind.u64.wrap kd) 4 = d := ⟨_, rfl⟩
  have l0 : d0.length = 4 := by rw [← hd0, digs_len]
  have lk : dk.length = 4 := by rw [← hdk, digs_len]
  rw [hd0, hdk] at hbody ⊢
  obtain ⟨box, hbox⟩ : ∃ box, box = Obj.cells #[.int .i64 kd, .int .i64 n, .string s, .slice ka keys.length kc, .slice va kids.length vc] 25 (0, 0) := ⟨_, rfl⟩
  have hnew := heap_alloc_new W box
  have hne : W.heap.size ≠ bw := by omega
  have hn1 := number_any 0 4 bw bb B xs (W.alloc box) (hW.alloc hB box) (by omega) (by omega) (by simp; omega)
  have e4 : ((4 : Nat) : Int) = 4 := rfl
  rw [hd0, e4] at hn1
  have hn2 := fun (w1 : World) (hw1 : Wr w1 bw bb B (xs ++ d0)) (hs : B ≤ w1.heap.size) => number_any kd 4 bw bb B _ w1 hw1 (by rw [List.length_append, l0]; omega) (by omega) hs
  rw [hdk, e4] at hn2
  -- the length put in
  obtain ⟨ys, hys⟩ : ∃ ys, xs ++ d0 ++ dk ++ bd = ys := ⟨_, rfl⟩
  have hyl : ys.length = xs.length + 8 + bd.length := by rw [← hys]; simp only [List.length_append]; omega
  have hyc : (ys.length : Int) - (xs.length : Nat) - 8 = (bd.length : Nat) := by omega
  obtain ⟨zs, hzs⟩ : ∃ zs, put ys xs.length (bd.length : Nat) 4 = zs := ⟨_, rfl⟩
  have hzl : zs.length = xs.length + 8 + bd.length := by rw [← hzs, put_len _ _ _ _ (by omega), hyl]
  rw [hys] at hbody ⊢
  rw [hzs]
  have hsl := fun (w3 : World) (hw3 : Wr w3 bw bb B ys) (hs : B ≤ w3.heap.size) => setLength_any xs.length bw bb B ys w3 hw3 (by omega) (by omega) hs
  rw [hyc, hzs] at hsl
  obtain ⟨L, hL⟩ : ∃ L : Nat, zs.length = L := ⟨_, rfl⟩
  obtain ⟨p, hp⟩ : ∃ p : Nat, (8 - bd.length % 8) % 8 = p := ⟨_, rfl⟩
  rw [hp]
  have hLm : L ≤ 1000000 := by omega
  have hp8 : p ≤ 8 := by omega
  have hpad : IntKind.i64.wrap (((L : Int) + 7) / 8 * 8 - L) = (p : Int) := by
    rw [show ((L : Int) + 7) / 8 * 8 - L = (p : Int) by omega]
    exact IntWalk.i64_in _ (by omega)
  have hn3 := fun (w4 : World) (hw4 : Wr w4 bw bb B zs) (hs : B ≤ w4.heap.size) => number_any 0 p bw bb B _ w4 hw4 (by omega) (by omega) hs
  have hpd := fun (w4 : World) => padded2_any L w4 (by omega)
  have hA := (hW.alloc hB box)
  obtain ⟨_, u, hhA, hownA⟩ := hA
  obtain ⟨ou, cu, rfl⟩ := own_len hownA
  obtain ⟨cA, _, _⟩ := wr_cells hhA
  subst hbox
  have HX := Lib.hid (And.intro hx hl)
  have HFF := Lib.hid hF
  have HBD := Lib.hid hbody
  have HTB := Lib.hid htb
  have HY := Lib.hid (And.intro hyl (And.intro hzl hL))
  have HP := Lib.hid hp
  have HPAD := Lib.hid hpad
  have HPD := Lib.hid hpd
  have HN3 := Lib.hid hn3
  have HSL := Lib.hid hsl
  clear hx hl hF hbody htb hownA hhA hW hd0 hdk hys hyl hyc hzs hzl hL hp hpad hpd hn3 hsl l0 lk
  go_enter Tryd.func35, Tryd.ntmps35
  go_upto_region 4 with (first
    | (go_at_call 52; with_reducible refine hn1.mono ?_; rintro e w1 ⟨rfl, hw1, hf1⟩; obtain ⟨z0, z1, z2, z3, z4⟩ := five_cells (hf1.boxed hne hnew); have hs1 : B ≤ w1.heap.size := by (have := hf1.size; simp at this; omega))
    | (go_at_call 52; have hn4 := hn2 w1 hw1 hs1; with_reducible refine hn4.mono ?_; rintro e w2 ⟨rfl, hw2, hf2⟩; obtain ⟨y0, y1, y2, y3, y4⟩ := five_cells (hf2.boxed hne (hf1.boxed hne hnew))))
  have hfr := ((Fr.alloc B bw W _).trans hf1).trans hf2
  have ht2 := hfr.old hbb hbn HTB.out
  have hfc := HFF.out w2 ht2
  have hb2 := HBD.out w2.drew (show Wr w2.drew bw bb B _ from hw2) (hfr.trans ⟨rfl, rfl, rfl, Nat.le_refl _, fun _ _ _ _ => rfl⟩)
  obtain ⟨_, u2, hh2, hown2⟩ := id hw2
  obtain ⟨cw0, cw1, cwf⟩ := wr_cells hh2
  have hs2 := Nat.le_trans hs1 hf2.size
  clear hown2 hh2 ht2 hfr hn1 hn2
  go_still_tail 10, (by kernel_rfl)
  change wpList _ _ _ _ _ w2.drew
  go_upto_region 6 with (first
    | (go_at_call 51; with_reducible refine hb2.mono ?_; rintro e w3 ⟨rfl, hw3, hf3⟩; have hs3 := HSL.out w3 hw3 (Nat.le_trans hB hf3.size))
    | (go_at_call 59; with_reducible refine hs3.mono ?_; rintro e w4 ⟨rfl, hw4, hf4⟩))
  have hsz4 : B ≤ w4.heap.size := Nat.le_trans hB (Nat.le_trans hf3.size hf4.size)
  have HFR := Lib.hid ((hf3.trans hf4).trans (⟨rfl, rfl, rfl, Nat.le_refl _, fun _ _ _ _ => rfl⟩ : Fr B bw w4 w4.drew))
  have hn6 := HN3.out w4.drew (show Wr w4.drew bw bb B zs from hw4) hsz4
  obtain ⟨_, u4, hh4, hown4⟩ := id hw4
  obtain ⟨o4, k4, rfl⟩ := own_len hown4
  rw [HY.out.2.2] at hh4
  obtain ⟨cx0, cx1, cxf⟩ := wr_cells hh4
  have hpad := HPAD.out
  have hpd : Calls Tryd.prog 60 #[Value.int IntKind.i64 ↑L] w4.drew fun e w' => e = Ending.returned (Value.int IntKind.i64 ((↑L + 7) / 8 * 8)) ∧ w' = w4.drew := (HPD.out w4.drew).mono fun e w' ⟨h1, h2⟩ => ⟨h1, h2.symm⟩
  clear hown4 hh4 hw4 hf3 hf4 hs3 hw3 hb2 hn4 hw2 hw1 hf1 hf2
  refine wp_region_still_tail 13 (by kernel_rfl) (by kernel_rfl) ?_
  simp only [List.take_succ_cons, List.take_zero, List.drop_succ_cons, List.drop_zero]
  repeat still_step
  still_call hpd
  repeat still_step
  refine wpStill_nil ?_
  change wpList _ _ _ _ _ w4.drew
  go_wp2_with (go_at_call 52; with_reducible refine hn6.mono ?_; rintro e w5 ⟨rfl, hw5, hf5⟩)
  exact void_end Tryd.res35 rfl ⟨rfl, hw5, HFR.out.trans hf5⟩

set_option maxRecDepth 100000 in
set_option maxHeartbeats 1600000 in
theorem value_53 (kd n : Int) (s : ByteArray) (keys : List Int) (kids : List T) (v : Value) (W0 W : World) (bw bb B : Nat) (xs bd : List Int) (hr : Rep W0 (.mk kd n s keys kids) v)
    (hbb : bb < B) (hbn : bb ≠ bw) (htb : W.heap[bb]? = some tabF) (hk0 : 0 ≤ kd) (hk1 : kd < 11)
    (hF : ∀ w : World, w.heap[bb]? = some tabF → w.cell? ⟨bb, kd.toNat, none⟩ = some (.func (.func 53) #[] #[]))
    (hW : Wr W bw bb B xs) (hx : xs.length % 8 = 0) (hl : xs.length + bd.length + 8 ≤ 1000000) (hB : B ≤ W.heap.size)
    (hbody : ∀ w1, Wr w1 bw bb B (xs ++ digs (IntKind.u64.wrap 0) 4 ++ digs (IntKind.u64.wrap kd) 4) → Fr B bw W w1 →
      Calls Tryd.prog 53 #[.pointer (some ⟨bw, 0, none⟩), v] w1 fun e w2 => e = .returned (.tuple #[]) ∧ Wr w2 bw bb B (xs ++ digs (IntKind.u64.wrap 0) 4 ++ digs (IntKind.u64.wrap kd) 4 ++ bd) ∧ Fr B bw W w2) :
    Calls Tryd.prog 35 #[.pointer (some ⟨bw, 0, none⟩), v] W fun e W' => e = .returned (.tuple #[]) ∧
      Wr W' bw bb B (put (xs ++ digs (IntKind.u64.wrap 0) 4 ++ digs (IntKind.u64.wrap kd) 4 ++ bd) xs.length bd.length 4 ++ digs (IntKind.u64.wrap 0) ((8 - bd.length % 8) % 8)) ∧ Fr B bw W W' := by
  unfold Rep at hr
  obtain ⟨ka, va, kc, vc, rfl, _⟩ := hr
  have hbw := hW.1
  obtain ⟨d0, hd0⟩ : ∃ d, digs (IntKind.u64.wrap 0) 4 = d := ⟨_, rfl⟩
  obtain ⟨dk, hdk⟩ : ∃ d, digs (IntKind.u64.wrap kd) 4 = d := ⟨_, rfl⟩
  have l0 : d0.length = 4 := by rw [← hd0, digs_len]
  have lk : dk.length = 4 := by rw [← hdk, digs_len]
  rw [hd0, hdk] at hbody ⊢
  obtain ⟨box, hbox⟩ : ∃ box, box = Obj.cells #[.int .i64 kd, .int .i64 n, .string s, .slice ka keys.length kc, .slice va kids.length vc] 25 (0, 0) := ⟨_, rfl⟩
  have hnew := heap_alloc_new W box
  have hne : W.heap.size ≠ bw := by omega
  have hn1 := number_any 0 4 bw bb B xs (W.alloc box) (hW.alloc hB box) (by omega) (by omega) (by simp; omega)
  have e4 : ((4 : Nat) : Int) = 4 := rfl
  rw [hd0, e4] at hn1
  have hn2 := fun (w1 : World) (hw1 : Wr w1 bw bb B (xs ++ d0)) (hs : B ≤ w1.heap.size) => number_any kd 4 bw bb B _ w1 hw1 (by rw [List.length_append, l0]; omega) (by omega) hs
  rw [hdk, e4] at hn2
  -- the length put in
  obtain ⟨ys, hys⟩ : ∃ ys, xs ++ d0 ++ dk ++ bd = ys := ⟨_, rfl⟩
  have hyl : ys.length = xs.length + 8 + bd.length := by rw [← hys]; simp only [List.length_append]; omega
  have hyc : (ys.length : Int) - (xs.length : Nat) - 8 = (bd.length : Nat) := by omega
  obtain ⟨zs, hzs⟩ : ∃ zs, put ys xs.length (bd.length : Nat) 4 = zs := ⟨_, rfl⟩
  have hzl : zs.length = xs.length + 8 + bd.length := by rw [← hzs, put_len _ _ _ _ (by omega), hyl]
  rw [hys] at hbody ⊢
  rw [hzs]
  have hsl := fun (w3 : World) (hw3 : Wr w3 bw bb B ys) (hs : B ≤ w3.heap.size) => setLength_any xs.length bw bb B ys w3 hw3 (by omega) (by omega) hs
  rw [hyc, hzs] at hsl
  obtain ⟨L, hL⟩ : ∃ L : Nat, zs.length = L := ⟨_, rfl⟩
  obtain ⟨p, hp⟩ : ∃ p : Nat, (8 - bd.length % 8) % 8 = p := ⟨_, rfl⟩
  rw [hp]
  have hLm : L ≤ 1000000 := by omega
  have hp8 : p ≤ 8 := by omega
  have hpad : IntKind.i64.wrap (((L : Int) + 7) / 8 * 8 - L) = (p : Int) := by
    rw [show ((L : Int) + 7) / 8 * 8 - L = (p : Int) by omega]
    exact IntWalk.i64_in _ (by omega)
  have hn3 := fun (w4 : World) (hw4 : Wr w4 bw bb B zs) (hs : B ≤ w4.heap.size) => number_any 0 p bw bb B _ w4 hw4 (by omega) (by omega) hs
  have hpd := fun (w4 : World) => padded2_any L w4 (by omega)
  have hA := (hW.alloc hB box)
  obtain ⟨_, u, hhA, hownA⟩ := hA
  obtain ⟨ou, cu, rfl⟩ := own_len hownA
  obtain ⟨cA, _, _⟩ := wr_cells hhA
  subst hbox
  have HX := Lib.hid (And.intro hx hl)
  have HFF := Lib.hid hF
  have HBD := Lib.hid hbody
  have HTB := Lib.hid htb
  have HY := Lib.hid (And.intro hyl (And.intro hzl hL))
  have HP := Lib.hid hp
  have HPAD := Lib.hid hpad
  have HPD := Lib.hid hpd
  have HN3 := Lib.hid hn3
  have HSL := Lib.hid hsl
  clear hx hl hF hbody htb hownA hhA hW hd0 hdk hys hyl hyc hzs hzl hL hp hpad hpd hn3 hsl l0 lk
  go_enter Tryd.func35, Tryd.ntmps35
  go_upto_region 4 with (first
    | (go_at_call 52; with_reducible refine hn1.mono ?_; rintro e w1 ⟨rfl, hw1, hf1⟩; obtain ⟨z0, z1, z2, z3, z4⟩ := five_cells (hf1.boxed hne hnew); have hs1 : B ≤ w1.heap.size := by (have := hf1.size; simp at this; omega))
    | (go_at_call 52; have hn4 := hn2 w1 hw1 hs1; with_reducible refine hn4.mono ?_; rintro e w2 ⟨rfl, hw2, hf2⟩; obtain ⟨y0, y1, y2, y3, y4⟩ := five_cells (hf2.boxed hne (hf1.boxed hne hnew))))
  have hfr := ((Fr.alloc B bw W _).trans hf1).trans hf2
  have ht2 := hfr.old hbb hbn HTB.out
  have hfc := HFF.out w2 ht2
  have hb2 := HBD.out w2.drew (show Wr w2.drew bw bb B _ from hw2) (hfr.trans ⟨rfl, rfl, rfl, Nat.le_refl _, fun _ _ _ _ => rfl⟩)
  obtain ⟨_, u2, hh2, hown2⟩ := id hw2
  obtain ⟨cw0, cw1, cwf⟩ := wr_cells hh2
  have hs2 := Nat.le_trans hs1 hf2.size
  clear hown2 hh2 ht2 hfr hn1 hn2
  go_still_tail 10, (by kernel_rfl)
  change wpList _ _ _ _ _ w2.drew
  go_upto_region 6 with (first
    | (go_at_call 53; with_reducible refine hb2.mono ?_; rintro e w3 ⟨rfl, hw3, hf3⟩; have hs3 := HSL.out w3 hw3 (Nat.le_trans hB hf3.size))
    | (go_at_call 59; with_reducible refine hs3.mono ?_; rintro e w4 ⟨rfl, hw4, hf4⟩))
  have hsz4 : B ≤ w4.heap.size := Nat.le_trans hB (Nat.le_trans hf3.size hf4.size)
  have HFR := Lib.hid ((hf3.trans hf4).trans (⟨rfl, rfl, rfl, Nat.le_refl _, fun _ _ _ _ => rfl⟩ : Fr B bw w4 w4.drew))
  have hn6 := HN3.out w4.drew (show Wr w4.drew bw bb B zs from hw4) hsz4
  obtain ⟨_, u4, hh4, hown4⟩ := id hw4
  obtain ⟨o4, k4, rfl⟩ := own_len hown4
  rw [HY.out.2.2] at hh4
  obtain ⟨cx0, cx1, cxf⟩ := wr_cells hh4
  have hpad := HPAD.out
  have hpd : Calls Tryd.prog 60 #[Value.int IntKind.i64 ↑L] w4.drew fun e w' => e = Ending.returned (Value.int IntKind.i64 ((↑L + 7) / 8 * 8)) ∧ w' = w4.drew := (HPD.out w4.drew).mono fun e w' ⟨h1, h2⟩ => ⟨h1, h2.symm⟩
  clear hown4 hh4 hw4 hf3 hf4 hs3 hw3 hb2 hn4 hw2 hw1 hf1 hf2
  refine wp_region_still_tail 13 (by kernel_rfl) (by kernel_rfl) ?_
  simp only [List.take_succ_cons, List.take_zero, List.drop_succ_cons, List.drop_zero]
  repeat still_step
  still_call hpd
  repeat still_step
  refine wpStill_nil ?_
  change wpList _ _ _ _ _ w4.drew
  go_wp2_with (go_at_call 52; with_reducible refine hn6.mono ?_; rintro e w5 ⟨rfl, hw5, hf5⟩)
  exact void_end Tryd.res35 rfl ⟨rfl, hw5, HFR.out.trans hf5⟩

set_option maxRecDepth 100000 in
set_option maxHeartbeats 1600000 in
theorem value_54 (kd n : Int) (s : ByteArray) (keys : List Int) (kids : List T) (v : Value) (W0 W : World) (bw bb B : Nat) (xs bd : List Int) (hr : Rep W0 (.mk kd n s keys kids) v)
    (hbb : bb < B) (hbn : bb ≠ bw) (htb : W.heap[bb]? = some tabF) (hk0 : 0 ≤ kd) (hk1 : kd < 11)
    (hF : ∀ w : World, w.heap[bb]? = some tabF → w.cell? ⟨bb, kd.toNat, none⟩ = some (.func (.func 54) #[] #[]))
    (hW : Wr W bw bb B xs) (hx : xs.length % 8 = 0) (hl : xs.length + bd.length + 8 ≤ 1000000) (hB : B ≤ W.heap.size)
    (hbody : ∀ w1, Wr w1 bw bb B (xs ++ digs (IntKind.u64.wrap 0) 4 ++ digs (IntKind.u64.wrap kd) 4) → Fr B bw W w1 →
      Calls Tryd.prog 54 #[.pointer (some ⟨bw, 0, none⟩), v] w1 fun e w2 => e = .returned (.tuple #[]) ∧ Wr w2 bw bb B (xs ++ digs (IntKind.u64.wrap 0) 4 ++ digs (IntKind.u64.wrap kd) 4 ++ bd) ∧ Fr B bw W w2) :
    Calls Tryd.prog 35 #[.pointer (some ⟨bw, 0, none⟩), v] W fun e W' => e = .returned (.tuple #[]) ∧
      Wr W' bw bb B (put (xs ++ digs (IntKind.u64.wrap 0) 4 ++ digs (IntKind.u64.wrap kd) 4 ++ bd) xs.length bd.length 4 ++ digs (IntKind.u64.wrap 0) ((8 - bd.length % 8) % 8)) ∧ Fr B bw W W' := by
  unfold Rep at hr
  obtain ⟨ka, va, kc, vc, rfl, _⟩ := hr
  have hbw := hW.1
  obtain ⟨d0, hd0⟩ : ∃ d, digs (IntKind.u64.wrap 0) 4 = d := ⟨_, rfl⟩
  obtain ⟨dk, hdk⟩ : ∃ d, digs (IntKind.u64.wrap kd) 4 = d := ⟨_, rfl⟩
  have l0 : d0.length = 4 := by rw [← hd0, digs_len]
  have lk : dk.length = 4 := by rw [← hdk, digs_len]
  rw [hd0, hdk] at hbody ⊢
  obtain ⟨box, hbox⟩ : ∃ box, box = Obj.cells #[.int .i64 kd, .int .i64 n, .string s, .slice ka keys.length kc, .slice va kids.length vc] 25 (0, 0) := ⟨_, rfl⟩
  have hnew := heap_alloc_new W box
  have hne : W.heap.size ≠ bw := by omega
  have hn1 := number_any 0 4 bw bb B xs (W.alloc box) (hW.alloc hB box) (by omega) (by omega) (by simp; omega)
  have e4 : ((4 : Nat) : Int) = 4 := rfl
  rw [hd0, e4] at hn1
  have hn2 := fun (w1 : World) (hw1 : Wr w1 bw bb B (xs ++ d0)) (hs : B ≤ w1.heap.size) => number_any kd 4 bw bb B _ w1 hw1 (by rw [List.length_append, l0]; omega) (by omega) hs
  rw [hdk, e4] at hn2
  -- the length put in
  obtain ⟨ys, hys⟩ : ∃ ys, xs ++ d0 ++ dk ++ bd = ys := ⟨_, rfl⟩
  have hyl : ys.length = xs.length + 8 + bd.length := by rw [← hys]; simp only [List.length_append]; omega
  have hyc : (ys.length : Int) - (xs.length : Nat) - 8 = (bd.length : Nat) := by omega
  obtain ⟨zs, hzs⟩ : ∃ zs, put ys xs.length (bd.length : Nat) 4 = zs := ⟨_, rfl⟩
  have hzl : zs.length = xs.length + 8 + bd.length := by rw [← hzs, put_len _ _ _ _ (by omega), hyl]
  rw [hys] at hbody ⊢
  rw [hzs]
  have hsl := fun (w3 : World) (hw3 : Wr w3 bw bb B ys) (hs : B ≤ w3.heap.size) => setLength_any xs.length bw bb B ys w3 hw3 (by omega) (by omega) hs
  rw [hyc, hzs] at hsl
  obtain ⟨L, hL⟩ : ∃ L : Nat, zs.length = L := ⟨_, rfl⟩
  obtain ⟨p, hp⟩ : ∃ p : Nat, (8 - bd.length % 8) % 8 = p := ⟨_, rfl⟩
  rw [hp]
  have hLm : L ≤ 1000000 := by omega
  have hp8 : p ≤ 8 := by omega
  have hpad : IntKind.i64.wrap (((L : Int) + 7) / 8 * 8 - L) = (p : Int) := by
    rw [show ((L : Int) + 7) / 8 * 8 - L = (p : Int) by omega]
    exact IntWalk.i64_in _ (by omega)
  have hn3 := fun (w4 : World) (hw4 : Wr w4 bw bb B zs) (hs : B ≤ w4.heap.size) => number_any 0 p bw bb B _ w4 hw4 (by omega) (by omega) hs
  have hpd := fun (w4 : World) => padded2_any L w4 (by omega)
  have hA := (hW.alloc hB box)
  obtain ⟨_, u, hhA, hownA⟩ := hA
  obtain ⟨ou, cu, rfl⟩ := own_len hownA
  obtain ⟨cA, _, _⟩ := wr_cells hhA
  subst hbox
  have HX := Lib.hid (And.intro hx hl)
  have HFF := Lib.hid hF
  have HBD := Lib.hid hbody
  have HTB := Lib.hid htb
  have HY := Lib.hid (And.intro hyl (And.intro hzl hL))
  have HP := Lib.hid hp
  have HPAD := Lib.hid hpad
  have HPD := Lib.hid hpd
  have HN3 := Lib.hid hn3
  have HSL := Lib.hid hsl
  clear hx hl hF hbody htb hownA hhA hW hd0 hdk hys hyl hyc hzs hzl hL hp hpad hpd hn3 hsl l0 lk
  go_enter Tryd.func35, Tryd.ntmps35
  go_upto_region 4 with (first
    | (go_at_call 52; with_reducible refine hn1.mono ?_; rintro e w1 ⟨rfl, hw1, hf1⟩; obtain ⟨z0, z1, z2, z3, z4⟩ := five_cells (hf1.boxed hne hnew); have hs1 : B ≤ w1.heap.size := by (have := hf1.size; simp at this; omega))
    | (go_at_call 52; have hn4 := hn2 w1 hw1 hs1; with_reducible refine hn4.mono ?_; rintro e w2 ⟨rfl, hw2, hf2⟩; obtain ⟨y0, y1, y2, y3, y4⟩ := five_cells (hf2.boxed hne (hf1.boxed hne hnew))))
  have hfr := ((Fr.alloc B bw W _).trans hf1).trans hf2
  have ht2 := hfr.old hbb hbn HTB.out
  have hfc := HFF.out w2 ht2
  have hb2 := HBD.out w2.drew (show Wr w2.drew bw bb B _ from hw2) (hfr.trans ⟨rfl, rfl, rfl, Nat.le_refl _, fun _ _ _ _ => rfl⟩)
  obtain ⟨_, u2, hh2, hown2⟩ := id hw2
  obtain ⟨cw0, cw1, cwf⟩ := wr_cells hh2
  have hs2 := Nat.le_trans hs1 hf2.size
  clear hown2 hh2 ht2 hfr hn1 hn2
  go_still_tail 10, (by kernel_rfl)
  change wpList _ _ _ _ _ w2.drew
  go_upto_region 6 with (first
    | (go_at_call 54; with_reducible refine hb2.mono ?_; rintro e w3 ⟨rfl, hw3, hf3⟩; have hs3 := HSL.out w3 hw3 (Nat.le_trans hB hf3.size))
    | (go_at_call 59; with_reducible refine hs3.mono ?_; rintro e w4 ⟨rfl, hw4, hf4⟩))
  have hsz4 : B ≤ w4.heap.size := Nat.le_trans hB (Nat.le_trans hf3.size hf4.size)
  have HFR := Lib.hid ((hf3.trans hf4).trans (⟨rfl, rfl, rfl, Nat.le_refl _, fun _ _ _ _ => rfl⟩ : Fr B bw w4 w4.drew))
  have hn6 := HN3.out w4.drew (show Wr w4.drew bw bb B zs from hw4) hsz4
  obtain ⟨_, u4, hh4, hown4⟩ := id hw4
  obtain ⟨o4, k4, rfl⟩ := own_len hown4
  rw [HY.out.2.2] at hh4
  obtain ⟨cx0, cx1, cxf⟩ := wr_cells hh4
  have hpad := HPAD.out
  have hpd : Calls Tryd.prog 60 #[Value.int IntKind.i64 ↑L] w4.drew fun e w' => e = Ending.returned (Value.int IntKind.i64 ((↑L + 7) / 8 * 8)) ∧ w' = w4.drew := (HPD.out w4.drew).mono fun e w' ⟨h1, h2⟩ => ⟨h1, h2.symm⟩
  clear hown4 hh4 hw4 hf3 hf4 hs3 hw3 hb2 hn4 hw2 hw1 hf1 hf2
  refine wp_region_still_tail 13 (by kernel_rfl) (by kernel_rfl) ?_
  simp only [List.take_succ_cons, List.take_zero, List.drop_succ_cons, List.drop_zero]
  repeat still_step
  still_call hpd
  repeat still_step
  refine wpStill_nil ?_
  change wpList _ _ _ _ _ w4.drew
  go_wp2_with (go_at_call 52; with_reducible refine hn6.mono ?_; rintro e w5 ⟨rfl, hw5, hf5⟩)
  exact void_end Tryd.res35 rfl ⟨rfl, hw5, HFR.out.trans hf5⟩

end Go.Proofs.YtfbeeaibejggdaaDoor
