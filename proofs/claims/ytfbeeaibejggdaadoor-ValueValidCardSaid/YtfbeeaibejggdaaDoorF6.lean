import Derived.Test.YtfbeeaibejggdaaDoorF5
namespace Go.Proofs.YtfbeeaibejggdaaDoor
open Go.RowKit

theorem Tryd.res56 : Tryd.f56.results = #[] := by kernel_rfl
theorem Tryd.res57 : Tryd.f57.results = #[] := by kernel_rfl

set_option maxRecDepth 100000 in
set_option maxHeartbeats 1600000 in
theorem object_any (tb : Obj) (kd n : Int) (s : ByteArray) (keys : List Int) (kids : List T) (v : Value) (W0 W : World) (bw bb B : Nat) (xs : List Int) (hr : Rep W0 (.mk kd n s keys kids) v) (hsm : Same W0 W) (h0 : W0.heap.size ≤ bw)
    (hbb : bb < B) (hbn : bb ≠ bw) (htb : W.heap[bb]? = some tb)
    (hW : Wr W bw bb B xs) (hx : xs.length % 8 = 0) (h8 : ∀ t ∈ kids, (byt (writtenT t)).length % 8 = 0) (hl : xs.length + 8 + (keyedOut keys kids kids.length).length ≤ 1000000) (hB : B ≤ W.heap.size)
    (hkk : keys.length = kids.length) (ih : ∀ j, (h : j < kids.length) → WroteAt tb kids[j]) :
    Calls Tryd.prog 56 #[.pointer (some ⟨bw, 0, none⟩), v] W fun e W' => e = .returned (.tuple #[]) ∧ Wr W' bw bb B (xs ++ digs (IntKind.u64.wrap n) 8 ++ keyedOut keys kids kids.length) ∧ Fr B bw W W' := by
  have hr0 := Lib.hid hr
  unfold Rep at hr
  obtain ⟨ka, va, kc, vc, rfl, _, _, _, _, hvl, hkeys, hkids⟩ := hr
  have hbw := hW.1
  obtain ⟨box, hbox⟩ : ∃ box, box = Obj.cells #[.int .i64 kd, .int .i64 n, .string s, .slice ka keys.length kc, .slice va kids.length vc] 25 (0, 0) := ⟨_, rfl⟩
  have hnew := heap_alloc_new W box
  have hne : W.heap.size ≠ bw := by omega
  have hnum := number_any n 8 bw bb B xs (W.alloc box) (hW.alloc hB box) (by omega) (by omega) (by simp; omega)
  have hrest : ∀ w1, Wr w1 bw bb B (xs ++ digs (IntKind.u64.wrap n) 8) → Fr B bw (W.alloc box) w1 →
      Calls Tryd.prog 58 #[.pointer (some ⟨bw, 0, none⟩), .agg #[.int .i64 kd, .int .i64 n, .string s, .slice ka keys.length kc, .slice va kids.length vc]] w1 fun e W' => e = .returned (.tuple #[]) ∧ Wr W' bw bb B (xs ++ digs (IntKind.u64.wrap n) 8 ++ keyedOut keys kids kids.length) ∧ Fr B bw W W' := by
    intro w1 hw1 hf1
    have hf0 := (Fr.alloc B bw W box).trans hf1
    refine (keyed_any tb kd n s keys kids _ W0 w1 bw bb B _ hr0.out (hsm.fr hf0 h0 hbw hB) h0 hbb hbn (hf0.old hbb hbn htb) hw1 (by rw [List.length_append, digs_len]; omega) h8 (by rw [List.length_append, digs_len]; omega)
      (by have := hf0.size; omega) hkk ih).mono ?_
    rintro e w2 ⟨rfl, g1, g2⟩
    exact ⟨rfl, g1, hf0.trans g2⟩
  subst hbox
  clear ih hsm h8 htb hW
  have HKK := Lib.hid hkk
  clear hkk
  go_enter Tryd.func56, Tryd.ntmps56
  go_wp2_with (first
    | (go_at_call 52; refine hnum.mono ?_; rintro e w1 ⟨rfl, hw1, hf1⟩; obtain ⟨z0, z1, z2, z3, z4⟩ := five_cells (hf1.boxed hne hnew))
    | (go_at_call 58; refine (hrest _ hw1 hf1).mono ?_; rintro e w2 ⟨rfl, hw2, hf2⟩))
  exact void_end Tryd.res56 rfl ⟨rfl, hw2, hf2⟩

set_option maxRecDepth 100000 in
set_option maxHeartbeats 1600000 in
theorem choice_any (tb : Obj) (kd n : Int) (s : ByteArray) (keys : List Int) (kids : List T) (v : Value) (W0 W : World) (bw bb B : Nat) (xs : List Int) (hr : Rep W0 (.mk kd n s keys kids) v) (hsm : Same W0 W) (h0 : W0.heap.size ≤ bw)
    (hbb : bb < B) (hbn : bb ≠ bw) (htb : W.heap[bb]? = some tb)
    (hW : Wr W bw bb B xs) (hx : xs.length % 8 = 0) (h8 : ∀ t ∈ kids, (byt (writtenT t)).length % 8 = 0) (hl : xs.length + 8 + (kidsOut kids).length ≤ 1000000) (hB : B ≤ W.heap.size)
    (ih : ∀ j, (h : j < kids.length) → WroteAt tb kids[j]) :
    Calls Tryd.prog 57 #[.pointer (some ⟨bw, 0, none⟩), v] W fun e W' => e = .returned (.tuple #[]) ∧ Wr W' bw bb B (xs ++ digs (IntKind.u64.wrap n) 8 ++ kidsOut kids) ∧ Fr B bw W W' := by
  have hr0 := Lib.hid hr
  unfold Rep at hr
  obtain ⟨ka, va, kc, vc, rfl, _, _, _, _, hvl, hkeys, hkids⟩ := hr
  have hbw := hW.1
  obtain ⟨box, hbox⟩ : ∃ box, box = Obj.cells #[.int .i64 kd, .int .i64 n, .string s, .slice ka keys.length kc, .slice va kids.length vc] 25 (0, 0) := ⟨_, rfl⟩
  have hnew := heap_alloc_new W box
  have hne : W.heap.size ≠ bw := by omega
  have hnum := number_any n 8 bw bb B xs (W.alloc box) (hW.alloc hB box) (by omega) (by omega) (by simp; omega)
  have hrest : ∀ w1, Wr w1 bw bb B (xs ++ digs (IntKind.u64.wrap n) 8) → Fr B bw (W.alloc box) w1 →
      Calls Tryd.prog 55 #[.pointer (some ⟨bw, 0, none⟩), .agg #[.int .i64 kd, .int .i64 n, .string s, .slice ka keys.length kc, .slice va kids.length vc]] w1 fun e W' => e = .returned (.tuple #[]) ∧ Wr W' bw bb B (xs ++ digs (IntKind.u64.wrap n) 8 ++ kidsOut kids) ∧ Fr B bw W W' := by
    intro w1 hw1 hf1
    have hf0 := (Fr.alloc B bw W box).trans hf1
    refine (kids_any tb kd n s keys kids _ W0 w1 bw bb B _ hr0.out (hsm.fr hf0 h0 hbw hB) h0 hbb hbn (hf0.old hbb hbn htb) hw1 (by rw [List.length_append, digs_len]; omega) h8 (by rw [List.length_append, digs_len]; omega)
      (by have := hf0.size; omega) ih).mono ?_
    rintro e w2 ⟨rfl, g1, g2⟩
    exact ⟨rfl, g1, hf0.trans g2⟩
  subst hbox
  clear ih hsm h8 htb hW
  go_enter Tryd.func57, Tryd.ntmps57
  go_wp2_with (first
    | (go_at_call 52; refine hnum.mono ?_; rintro e w1 ⟨rfl, hw1, hf1⟩; obtain ⟨z0, z1, z2, z3, z4⟩ := five_cells (hf1.boxed hne hnew))
    | (go_at_call 55; refine (hrest _ hw1 hf1).mono ?_; rintro e w2 ⟨rfl, hw2, hf2⟩))
  exact void_end Tryd.res57 rfl ⟨rfl, hw2, hf2⟩
end Go.Proofs.YtfbeeaibejggdaaDoor
