import Derived.Test.YtfbeeaibejggdaaDoorFA
import Derived.Test.YtfbeeaibejggdaaDoorAC
namespace Go.Proofs.YtfbeeaibejggdaaDoor
open Go.RowKit

theorem Tryd.res56 : Tryd.f56.results = #[] := by kernel_rfl
theorem Tryd.res57 : Tryd.f57.results = #[] := by kernel_rfl

set_option maxRecDepth 100000 in
set_option maxHeartbeats 1600000 in
theorem object_any (tb : Obj) (kd n : Int) (s : ByteArray) (keys : List Int) (kids : List T) (v : Value) (W0 W : World) (bw bb B : Nat) (xs : List Int) (hr : Rep W0 (.mk kd n s keys kids) v) (hsm : Same W0 W) (h0 : W0.heap.size ≤ bw)
    (hbb : bb < B) (hbn : bb ≠ bw) (htb : W.heap[bb]? = some tb)
    (hW : Wr W bw bb B xs) (hx : xs.length % 8 = 0) (h8 : ∀ t ∈ kids, (byt (writtenT t)).length % 8 = 0) (hl : xs.length + 8 + (keyedOut keys kids kids.length).length ≤ 1000000) (hB : B ≤ W.heap.size)
    (hkk : keys.length = kids.length) (ih : ∀ j, (h : j < kids.length) → WroteAt tb kids[j]) :
    Calls Tryd.prog 56 #[.pointer (some ⟨bw, 0, none⟩), v] W fun e W' => e = .returned (.tuple #[]) ∧ Wr W' bw bb B (xs ++ digs (IntKind.u64.wrap n) 8 ++ keyedOut keys kids kids.length) ∧ Fr B bw W W' := by
  have hr0 := Lib.hid hr
  unfold Rep at hr
  obtain ⟨ka, va, kc, vc, rfl, _, _, _, _, hvl, hkeys, hkids⟩ := hr
  have hbw := hW.1
  obtain ⟨box, hbox⟩ : ∃ box, box = Obj.cells #[.int .i64 kd, .int .i64 n, .string s, .slice ka keys.length kc, .slice va kids.length vc] 25 (0, 0) := ⟨_, rfl⟩
  have hnew := heap_alloc_new W box
  have hne : W.heap.size ≠ bw := by omega
  have hnum := number_any n 8 bw bb B xs (W.alloc box) (hW.alloc hB box) (by omega) (by omega) (by simp; omega)
  have hrest : ∀ w1, Wr w1 bw bb B (xs ++ digs (IntKind.u64.wrap n) 8) → Fr B bw (W.alloc box) w1 →
      Calls Tryd.prog 58 #[.pointer (some ⟨bw, 0, none⟩), .agg #[.int .i64 kd, .int .i64 n, .string s, .slice ka keys.length kc, .slice va kids.length vc]] w1 fun e W' => e = .returned (.tuple #[]) ∧ Wr W' bw bb B (xs ++ digs (IntKind.u64.wrap n) 8 ++ keyedOut keys kids kids.length) ∧ Fr B bw W W' := by
    intro w1 hw1 hf1
    have hf0 := (Fr.alloc B bw W box).trans hf1
    refine (keyed_any tb kd n s keys kids _ W0 w1 bw bb B _ hr0.out (hsm.fr hf0 h0 hbw hB) h0 hbb hbn (hf0.old hbb hbn htb) hw1 (by rw [List.length_append, digs_len]; omega) h8 (by rw [List.length_append, digs_len]; omega)
      (by have := hf0.size; omega) hkk ih).mono ?_
    rintro e w2 ⟨rfl, g1, g2⟩
    exact ⟨rfl, g1, hf0.trans g2⟩
  subst hbox
  clear ih hsm h8 htb hW
  have HKK := Lib.hid hkk
  clear hkk
  go_enter Tryd.func56, Tryd.ntmps56
  go_wp2_with (first
    | (go_at_call 52; refine hnum.mono ?_; rintro e w1 ⟨rfl, hw1, hf1⟩; obtain ⟨z0, z1, z2, z3, z4⟩ := five_cells (hf1.boxed hne hnew))
    | (go_at_call 58; refine (hrest _ hw1 hf1).mono ?_; rintro e w2 ⟨rfl, hw2, hf2⟩))
  exact void_end Tryd.res56 rfl ⟨rfl, hw2, hf2⟩

set_option maxRecDepth 100000 in
set_option maxHeartbeats 1600000 in
theorem choice_any (tb : Obj) (kd n : Int) (s : ByteArray) (keys : List Int) (kids : List T) (v : Value) (W0 W : World) (bw bb B : Nat) (xs : List Int) (hr : Rep W0 (.mk kd n s keys kids) v) (hsm : Same W0 W) (h0 : W0.heap.size ≤ bw)
    (hbb : bb < B) (hbn : bb ≠ bw) (htb : W.heap[bb]? = some tb)
    (hW : Wr W bw bb B xs) (hx : xs.length % 8 = 0) (h8 : ∀ t ∈ kids, (byt (writtenT t)).length % 8 = 0) (hl : xs.length + 8 + (kidsOut kids).length ≤ 1000000) (hB : B ≤ W.heap.size)
    (ih : ∀ j, (h : j < kids.length) → WroteAt tb kids[j]) :
    Calls Tryd.prog 57 #[.pointer (some ⟨bw, 0, none⟩), v] W fun e W' => e = .returned (.tuple #[]) ∧ Wr W' bw bb B (xs ++ digs (IntKind.u64.wrap n) 8 ++ kidsOut kids) ∧ Fr B bw W W' := by
  have hr0 := Lib.hid hr
  unfold Rep at hr
  obtain ⟨ka, va, kc, vc, rfl, _, _, _, _, hvl, hkeys, hkids⟩ := hr
  have hbw := hW.1
  obtain ⟨box, hbox⟩ : ∃ box, box = Obj.cells #[.int .i64 kd, .int .i64 n, .string s, .slice ka keys.length kc, .slice va kids.length vc] 25 (0, 0) := ⟨_, rfl⟩
  have hnew := heap_alloc_new W box
  have hne : W.heap.size ≠ bw := by omega
  have hnum := number_any n 8 bw bb B xs (W.alloc box) (hW.alloc hB box) (by omega) (by omega) (by simp; omega)
  have hrest : ∀ w1, Wr w1 bw bb B (xs ++ digs (IntKind.u64.wrap n) 8) → Fr B bw (W.alloc box) w1 →
      Calls Tryd.prog 55 #[.pointer (some ⟨bw, 0, none⟩), .agg #[.int .i64 kd, .int .i64 n, .string s, .slice ka keys.length kc, .slice va kids.length vc]] w1 fun e W' => e = .returned (.tuple #[]) ∧ Wr W' bw bb B (xs ++ digs (IntKind.u64.wrap n) 8 ++ kidsOut kids) ∧ Fr B bw W W' := by
    intro w1 hw1 hf1
    have hf0 := (Fr.alloc B bw W box).trans hf1
    refine (kids_any tb kd n s keys kids _ W0 w1 bw bb B _ hr0.out (hsm.fr hf0 h0 hbw hB) h0 hbb hbn (hf0.old hbb hbn htb) hw1 (by rw [List.length_append, digs_len]; omega) h8 (by rw [List.length_append, digs_len]; omega)
      (by have := hf0.size; omega) ih).mono ?_
    rintro e w2 ⟨rfl, g1, g2⟩
    exact ⟨rfl, g1, hf0.trans g2⟩
  subst hbox
  clear ih hsm h8 htb hW
  go_enter Tryd.func57, Tryd.ntmps57
  go_wp2_with (first
    | (go_at_call 52; refine hnum.mono ?_; rintro e w1 ⟨rfl, hw1, hf1⟩; obtain ⟨z0, z1, z2, z3, z4⟩ := five_cells (hf1.boxed hne hnew))
    | (go_at_call 55; refine (hrest _ hw1 hf1).mono ?_; rintro e w2 ⟨rfl, hw2, hf2⟩))
  exact void_end Tryd.res57 rfl ⟨rfl, hw2, hf2⟩
end Go.Proofs.YtfbeeaibejggdaaDoor
namespace Go.Proofs.YtfbeeaibejggdaaDoor
open Go.RowKit

theorem Tryd.res50 : Tryd.f50.results = #[] := by kernel_rfl
theorem Tryd.res51 : Tryd.f51.results = #[] := by kernel_rfl
theorem Tryd.res53 : Tryd.f53.results = #[] := by kernel_rfl

theorem none_any (kd n : Int) (s : ByteArray) (keys : List Int) (kids : List T) (v : Value) (W0 W : World) (bw bb B : Nat) (xs : List Int) (hr : Rep W0 (.mk kd n s keys kids) v)
    (hW : Wr W bw bb B xs) (hB : B ≤ W.heap.size) :
    Calls Tryd.prog 50 #[.pointer (some ⟨bw, 0, none⟩), v] W fun e W' => e = .returned (.tuple #[]) ∧ Wr W' bw bb B xs ∧ Fr B bw W W' := by
  unfold Rep at hr
  obtain ⟨ka, va, kc, vc, rfl, _⟩ := hr
  have h1 := hW.alloc hB (.cells #[.int .i64 kd, .int .i64 n, .string s, .slice ka keys.length kc, .slice va kids.length vc] 25)
  clear hW
  go_enter Tryd.func50, Tryd.ntmps50
  go_wp2
  exact void_end Tryd.res50 rfl ⟨rfl, h1, Fr.alloc B bw W _⟩

set_option maxRecDepth 100000 in
set_option maxHeartbeats 1600000 in
theorem bool_any (kd n : Int) (s : ByteArray) (keys : List Int) (kids : List T) (v : Value) (W0 W : World) (bw bb B : Nat) (xs : List Int) (hr : Rep W0 (.mk kd n s keys kids) v)
    (hW : Wr W bw bb B xs) (hl : xs.length ≤ 1000000) (hB : B ≤ W.heap.size) :
    Calls Tryd.prog 51 #[.pointer (some ⟨bw, 0, none⟩), v] W fun e W' => e = .returned (.tuple #[]) ∧ Wr W' bw bb B (xs ++ digs (IntKind.u64.wrap n) 4) ∧ Fr B bw W W' := by
  unfold Rep at hr
  obtain ⟨ka, va, kc, vc, rfl, _⟩ := hr
  have hnum := number_any n 4 bw bb B xs (W.alloc (.cells #[.int .i64 kd, .int .i64 n, .string s, .slice ka keys.length kc, .slice va kids.length vc] 25)) (hW.alloc hB _) hl (by omega) (by simp; omega)
  clear hW
  go_enter Tryd.func51, Tryd.ntmps51
  go_wp2_with (go_at_call 52; refine hnum.mono ?_; rintro e w1 ⟨rfl, hw1, hf1⟩)
  exact void_end Tryd.res51 rfl ⟨rfl, hw1, (Fr.alloc B bw W _).trans hf1⟩

set_option maxRecDepth 100000 in
set_option maxHeartbeats 1600000 in
theorem int_any (kd n : Int) (s : ByteArray) (keys : List Int) (kids : List T) (v : Value) (W0 W : World) (bw bb B : Nat) (xs : List Int) (hr : Rep W0 (.mk kd n s keys kids) v)
    (hW : Wr W bw bb B xs) (hl : xs.length ≤ 1000000) (hB : B ≤ W.heap.size) :
    Calls Tryd.prog 53 #[.pointer (some ⟨bw, 0, none⟩), v] W fun e W' => e = .returned (.tuple #[]) ∧ Wr W' bw bb B (xs ++ digs (IntKind.u64.wrap n) 8) ∧ Fr B bw W W' := by
  unfold Rep at hr
  obtain ⟨ka, va, kc, vc, rfl, _⟩ := hr
  have hnum := number_any n 8 bw bb B xs (W.alloc (.cells #[.int .i64 kd, .int .i64 n, .string s, .slice ka keys.length kc, .slice va kids.length vc] 25)) (hW.alloc hB _) hl (by omega) (by simp; omega)
  clear hW
  go_enter Tryd.func53, Tryd.ntmps53
  go_wp2_with (go_at_call 52; refine hnum.mono ?_; rintro e w1 ⟨rfl, hw1, hf1⟩)
  exact void_end Tryd.res53 rfl ⟨rfl, hw1, (Fr.alloc B bw W _).trans hf1⟩
end Go.Proofs.YtfbeeaibejggdaaDoor
namespace Go.Proofs.YtfbeeaibejggdaaDoor
open Go.RowKit

/-- The table of the writer's bodies. -/
def tabF : Obj := .cells #[.nilFunc, .func (.func 50) #[] #[], .func (.func 51) #[] #[], .func (.func 53) #[] #[], .func (.func 54) #[] #[], .func (.func 54) #[] #[],
  .func (.func 55) #[] #[], .func (.func 55) #[] #[], .func (.func 56) #[] #[], .func (.func 57) #[] #[], .func (.func 58) #[] #[]] 76 (0, 0)

theorem bodyWriters_any (w : World) : Calls Tryd.prog 34 #[] w fun e w' => e = .returned (.slice (some ⟨w.heap.size, 0, none⟩) 11 11) ∧ w' = w.alloc tabF := by
  go_enter Tryd.func34, Tryd.ntmps34
  go_wp2
  go_ret
  exact ⟨rfl, rfl⟩

theorem own_len {w : World} {B e sz n : Nat} {v : Value} {xs : List Value} (h : w.ownsRow B e sz v n xs) : ∃ a c, v = .slice a n c := by
  rcases h.2 with ⟨h1, h2⟩ | ⟨g, cap, cur, hv, _⟩
  · subst h2; exact ⟨_, _, h1⟩
  · exact ⟨_, _, hv⟩

/-- What the writer does between a value's head and its end. -/
def bodyOut (kd n : Int) (s : ByteArray) (keys : List Int) (kids : List T) : List Int :=
  if kd = 2 then digs (IntKind.u64.wrap n) 4 else if kd = 3 then digs (IntKind.u64.wrap n) 8 else if kd = 4 then byt s else if kd = 5 then byt s
  else if kd = 6 then kidsOut kids else if kd = 7 then kidsOut kids else if kd = 8 then digs (IntKind.u64.wrap n) 8 ++ keyedOut keys kids kids.length
  else if kd = 9 then digs (IntKind.u64.wrap n) 8 ++ kidsOut kids else if kd = 10 then keyedOut keys kids kids.length else []
end Go.Proofs.YtfbeeaibejggdaaDoor
/- The bytes that the writer leaves at a value are the document's. -/
namespace Go.Proofs.YtfbeeaibejggdaaDoor
open Go.RowKit

theorem byt_nums (xs : List Int) (h : ∀ x ∈ xs, 0 ≤ x ∧ x < 256) : byt (strOfNums xs) = xs := by
  unfold byt strOfNums
  simp only [List.map_map]
  conv => rhs; rw [← List.map_id xs]
  apply List.map_congr_left
  intro x hx
  obtain ⟨h0, h1⟩ := h x hx
  simp only [Function.comp, id]
  rw [UInt8.toNat_ofNat']
  omega
theorem digs_byte (n : Int) (k : Nat) : ∀ x ∈ digs n k, 0 ≤ x ∧ x < 256 := by
  intro x hx
  unfold digs at hx
  obtain ⟨j, _, rfl⟩ := List.mem_map.1 hx
  omega
theorem byt_numS (n : Int) (k : Nat) : byt (numS n k) = digs (IntKind.u64.wrap n) k := byt_nums _ (digs_byte _ _)
theorem byt_zeros (j : Nat) : byt (zeros j) = List.replicate j 0 := by simp [byt, zeros]
theorem byt_zero4 : byt zero4 = [0, 0, 0, 0] := rfl
theorem byt_empty : byt ⟨#[]⟩ = [] := rfl
theorem digs_zero (j : Nat) : digs 0 j = List.replicate j 0 := by
  induction j with
  | zero => rfl
  | succ j ih => rw [digs_succ, ih, List.replicate_succ']; simp
theorem digs_eight (n : Int) (h0 : 0 ≤ n) (h1 : n < 4294967296) : digs n 8 = digs n 4 ++ [0, 0, 0, 0] := by
  have e : ∀ j : Nat, 4 ≤ j → n / 256 ^ j % 256 = 0 := fun j hj => by
    obtain ⟨i, rfl⟩ : ∃ i, j = 4 + i := ⟨j - 4, by omega⟩
    rw [Int.pow_add, ← Int.ediv_ediv_of_nonneg (by decide)]
    have : n / 256 ^ 4 = 0 := by
      rw [show (256 : Int) ^ 4 = 4294967296 by decide]; omega
    rw [this]; simp
  rw [digs_succ, digs_succ, digs_succ, digs_succ, e 4 (by omega), e 5 (by omega), e 6 (by omega), e 7 (by omega)]
  simp
theorem u64_same (n : Int) (h0 : 0 ≤ n) (h1 : n < 18446744073709551616) : IntKind.u64.wrap n = n := by
  simp [IntKind.wrap, IntKind.bits, IntKind.signed]; omega

theorem byt_pad (x : ByteArray) : byt (padS x) = byt x ++ digs 0 ((8 - x.size % 8) % 8) := by
  rw [padS, byt_app, byt_zeros, digs_zero]
theorem byt_close (kd : Int) (b : ByteArray) (h : b.size < 4294967296) :
    byt (closeS kd b) = digs (b.size : Nat) 4 ++ digs (IntKind.u64.wrap kd) 4 ++ byt b ++ digs 0 ((8 - b.size % 8) % 8) := by
  rw [closeS, byt_pad, byt_app, byt_app, byt_numS, byt_numS, u64_same _ (by omega) (by omega), app_size, app_size, numS_size, numS_size]
  rw [show (8 - (4 + 4 + b.size) % 8) % 8 = (8 - b.size % 8) % 8 by omega]
theorem byt_close_eight (kd : Int) (b : ByteArray) : (byt (closeS kd b)).length % 8 = 0 := by
  rw [byt_len, closeS, padS, app_size, zeros_size]; omega
theorem written_eight (t : T) : (byt (writtenT t)).length % 8 = 0 := by
  obtain ⟨kd, n, s, keys, kids⟩ := t
  rw [writtenT]; exact byt_close_eight _ _

theorem body_plain (kd : Int) (h : (kd == 8 || kd == 10) = false) : ∀ (l : List T) (b : ByteArray) (keys : List Int), byt (bodyL kd b keys l) = byt b ++ kidsOut l
  | [], b, keys => by simp [bodyL, kidsOut]
  | t :: r, b, keys => by
    rw [bodyL, body_plain kd h r, keyS, h, byt_app]
    simp [kidsOut]
theorem body_keyed (kd : Int) (h : (kd == 8 || kd == 10) = true) (keys : List Int) (kids : List T) (b : ByteArray) (hk : ∀ j, j < kids.length → 0 ≤ keys.getD j 0 ∧ keys.getD j 0 < 4294967296) :
    ∀ k, k ≤ kids.length → byt (bodyL kd b keys (kids.take k)) = byt b ++ keyedOut keys kids k := by
  intro k
  induction k with
  | zero => intro _; simp [bodyL, keyedOut]
  | succ k ih =>
    intro hle
    have hlt : k < kids.length := by omega
    obtain ⟨h0, h1⟩ := hk k hlt
    rw [take_next kids k hlt, bodyL_snoc, byt_app, keyS, h, if_pos rfl, byt_app, ih (by omega), keyedOut_next keys kids k hlt, byt_app, byt_numS, byt_zero4,
      List.length_take, Nat.min_eq_left (by omega), u64_same _ h0 (by omega), digs_eight _ h0 h1]
    simp only [List.append_assoc]

theorem keys_small {l : List Int} {high : Int} {strict : Bool} (h : keysB l high strict = true) (hh : high < 4294967296) (j : Nat) (hj : j < l.length) : 0 ≤ l.getD j 0 ∧ l.getD j 0 < 4294967296 := by
  unfold keysB at h
  have := List.all_eq_true.1 h j (List.mem_range.2 hj)
  unfold okKey at this
  simp only [Bool.and_eq_true, decide_eq_true_eq] at this
  omega
theorem numbers_small {how : Int} {l : List T} (h : numbersB how l = true) : 0 ≤ how ∧ how < 4294967296 := by
  unfold numbersB at h
  by_cases h1 : how = 1
  · omega
  by_cases h2 : how = 2
  · omega
  by_cases h3 : how = 3
  · omega
  by_cases h4 : how = 4
  · omega
  rw [if_neg h1, if_neg h2, if_neg h3, if_neg h4] at h
  simp at h

theorem body_out (kd n : Int) (s : ByteArray) (keys : List Int) (kids : List T) (h : shapedB (.mk kd n s keys kids) = true) :
    byt (bodyL kd (startS kd n s) keys kids) = bodyOut kd n s keys kids ∧ 1 ≤ kd ∧ kd ≤ 10 := by
  rw [shapedB] at h
  by_cases h1 : kd = 1
  · subst h1
    have : kids = [] := bareB_kids (t := .mk 1 n s keys kids) (by simpa using h)
    subst this
    exact ⟨rfl, by omega, by omega⟩
  by_cases h2 : kd = 2
  · subst h2; simp at h
    have : kids = [] := bareB_kids (t := .mk 2 n s keys kids) h.1
    subst this
    exact ⟨by rw [bodyL]; exact byt_numS _ _, by omega, by omega⟩
  by_cases h3 : kd = 3
  · subst h3
    have : kids = [] := bareB_kids (t := .mk 3 n s keys kids) (by simpa using h)
    subst this
    exact ⟨by rw [bodyL]; exact byt_numS _ _, by omega, by omega⟩
  by_cases h4 : kd = 4
  · subst h4; simp at h
    have : kids = [] := bareB_kids (t := .mk 4 n s keys kids) h.1
    subst this
    exact ⟨by rw [bodyL]; rfl, by omega, by omega⟩
  by_cases h5 : kd = 5
  · subst h5
    have : kids = [] := bareB_kids (t := .mk 5 n s keys kids) (by simpa using h)
    subst this
    exact ⟨by rw [bodyL]; rfl, by omega, by omega⟩
  rw [if_neg h1, if_neg h2, if_neg h3, if_neg h4, if_neg h5] at h
  simp only [Bool.and_eq_true, decide_eq_true_eq] at h
  obtain ⟨⟨⟨g1, g2⟩, hk⟩, hw⟩ := h
  refine ⟨?_, by omega, g2⟩
  by_cases h6 : kd = 6
  · subst h6; rw [body_plain 6 rfl]; show byt ⟨#[]⟩ ++ _ = kidsOut kids; rfl
  by_cases h7 : kd = 7
  · subst h7; rw [body_plain 7 rfl]; show byt ⟨#[]⟩ ++ _ = kidsOut kids; rfl
  by_cases h8 : kd = 8
  · subst h8
    rw [wholeB_object] at hw
    simp only [Bool.and_eq_true, decide_eq_true_eq] at hw
    obtain ⟨⟨⟨⟨_, a⟩, b⟩, c⟩, d⟩ := hw
    have c := eq_of_beq c
    have hb := body_keyed 8 rfl keys kids (startS 8 n s) (fun j hj => keys_small d (by omega) j (by omega)) kids.length (Nat.le_refl _)
    rw [List.take_length] at hb
    rw [hb]
    show byt (numS n 4 ++ zero4) ++ _ = digs (IntKind.u64.wrap n) 8 ++ _
    rw [byt_app, byt_numS, byt_zero4, u64_same _ a (by omega), digs_eight _ a (by omega)]
  by_cases h9 : kd = 9
  · subst h9
    rw [wholeB_choice] at hw
    simp only [Bool.and_eq_true] at hw
    obtain ⟨a, b⟩ := numbers_small hw.2
    rw [body_plain 9 rfl]
    show byt (numS n 4 ++ zero4) ++ _ = digs (IntKind.u64.wrap n) 8 ++ _
    rw [byt_app, byt_numS, byt_zero4, u64_same _ a (by omega), digs_eight _ a (by omega)]
  obtain rfl : kd = 10 := by omega
  rw [wholeB_sequence] at hw
  simp only [Bool.and_eq_true] at hw
  obtain ⟨⟨_, c⟩, d⟩ := hw
  have c := eq_of_beq c
  have hb := body_keyed 10 rfl keys kids (startS 10 n s) (fun j hj => keys_small d (by omega) j (by omega)) kids.length (Nat.le_refl _)
  rw [List.take_length] at hb
  rw [hb]
  show byt ⟨#[]⟩ ++ _ = keyedOut keys kids kids.length
  rfl

/-- A value's bytes are its length, its kind, its body, and zeros. -/
theorem written_parts (kd n : Int) (s : ByteArray) (keys : List Int) (kids : List T) (h : shapedB (.mk kd n s keys kids) = true) (hc : costT (.mk kd n s keys kids) ≤ 3000) :
    byt (writtenT (.mk kd n s keys kids)) = digs ((bodyOut kd n s keys kids).length : Nat) 4 ++ digs (IntKind.u64.wrap kd) 4 ++ bodyOut kd n s keys kids ++ digs 0 ((8 - (bodyOut kd n s keys kids).length % 8) % 8) ∧ (bodyOut kd n s keys kids).length ≤ 300000 := by
  have hsz := written_size (.mk kd n s keys kids)
  have hb := (body_out kd n s keys kids h).1
  have hl : (bodyL kd (startS kd n s) keys kids).size = (bodyOut kd n s keys kids).length := by rw [← hb, byt_len]
  rw [writtenT] at hsz ⊢
  have h1 : (closeS kd (bodyL kd (startS kd n s) keys kids)).size = 8 + (bodyL kd (startS kd n s) keys kids).size + (8 - (8 + (bodyL kd (startS kd n s) keys kids).size) % 8) % 8 := by
    rw [closeS, padS, app_size, app_size, app_size, zeros_size, numS_size, numS_size]
  rw [byt_close _ _ (by omega), hb, hl]
  exact ⟨rfl, by omega⟩
end Go.Proofs.YtfbeeaibejggdaaDoor
