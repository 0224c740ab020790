import Derived.Test.YtfbeeaibejggdaaDoorA3
namespace Go.Proofs.YtfbeeaibejggdaaDoor
open Go.RowKit

/-- The cells of a boxed value, later. -/
theorem box_at {w wr : World} {c0 c1 c2 c3 c4 : Value} {t : TypeId} (h : Below (w.heap.size + 1) (w.alloc (.cells #[c0, c1, c2, c3, c4] t)) wr) :
    wr.cell? ⟨w.heap.size, 0, none⟩ = some c0 ∧ wr.cell? ⟨w.heap.size, 1, none⟩ = some c1 ∧ wr.cell? ⟨w.heap.size, 2, none⟩ = some c2 ∧ wr.cell? ⟨w.heap.size, 3, none⟩ = some c3 ∧ wr.cell? ⟨w.heap.size, 4, none⟩ = some c4 := by
  refine ⟨?_, ?_, ?_, ?_, ?_⟩ <;> (rw [h.cell (by simp)]; simp [go_sem])

theorem box_first {w w1 : World} {o : Obj} (h : Below (w.alloc o).heap.size (w.alloc o) w1) : Below (w.heap.size + 1) (w.alloc o) w1 := h.mono (by simp)
theorem box_next {w wr w1 : World} {o : Obj} (h : Below (w.heap.size + 1) (w.alloc o) wr) (h1 : Below wr.heap.size wr w1) : Below (w.heap.size + 1) (w.alloc o) w1 :=
  h.trans (h1.mono (by have := h.size; simp at this; omega))
theorem box_out {w wr : World} {o : Obj} (h : Below (w.heap.size + 1) (w.alloc o) wr) : Below w.heap.size w wr :=
  (((Below.refl _ _).alloc (Nat.le_refl _) _).trans (h.mono (by omega)))
theorem same_alloc (w : World) (o : Obj) : Same w (w.alloc o) := fun a ha => World.cell?_of_block (w := w) (Below.heap_alloc w o a.block ha)

def listOk (l : List T) : Bool := l.all fun t => decide (t.kind = (l.head?.map T.kind).getD 0) && (decide (t.kind = 2) || decide (t.kind = 3) || decide (t.kind = 4))
def wholeB (t : T) : Bool :=
  if t.kind = 6 then listOk t.kids && bareB t false false false true
  else if t.kind = 7 then bareB t false false false true
  else if t.kind = 8 then bareB t true false true true && decide (0 ≤ t.n) && decide (t.n ≤ 2147483647) && t.keys.length == t.kids.length && keysB t.keys 2147483647 true
  else if t.kind = 9 then bareB t true false false true && numbersB t.n t.kids
  else if t.kind = 10 then (t.kids.all fun x => !decide (x.kind = 10)) && bareB t false false true true && t.keys.length == t.kids.length && keysB t.keys 1000000000 false
  else true

theorem rep_mk {w : World} {kd n : Int} {s : ByteArray} {keys : List Int} {kids : List T} {v : Value} (h : Rep w (.mk kd n s keys kids) v) :
    ∃ (ka va : Option Addr) (kc vc : Nat), v = .agg #[.int .i64 kd, .int .i64 n, .string s, .slice ka keys.length kc, .slice va kids.length vc] ∧
      I64 kd ∧ I64 n ∧ s.size ≤ 140737488355328 ∧ keys.length ≤ 17592186044416 ∧ kids.length ≤ 17592186044416 ∧ KeysIn w ka keys ∧ KidsIn w va 0 kids := by
  unfold Rep at h; exact h

section
variable (n : Int) (s : ByteArray) (keys : List Int) (kids : List T)
theorem wholeB_list : wholeB (.mk 6 n s keys kids) = (listOk kids && bareB (.mk 6 n s keys kids) false false false true) := rfl
theorem wholeB_struct : wholeB (.mk 7 n s keys kids) = bareB (.mk 7 n s keys kids) false false false true := rfl
theorem wholeB_object : wholeB (.mk 8 n s keys kids) = (bareB (.mk 8 n s keys kids) true false true true && decide (0 ≤ n) && decide (n ≤ 2147483647) && keys.length == kids.length && keysB keys 2147483647 true) := rfl
theorem wholeB_choice : wholeB (.mk 9 n s keys kids) = (bareB (.mk 9 n s keys kids) true false false true && numbersB n kids) := rfl
theorem wholeB_sequence : wholeB (.mk 10 n s keys kids) = ((kids.all fun x => !decide (x.kind = 10)) && bareB (.mk 10 n s keys kids) false false true true && keys.length == kids.length && keysB keys 1000000000 false) := rfl
theorem wholeB_other {kd : Int} (h6 : kd ≠ 6) (h7 : kd ≠ 7) (h8 : kd ≠ 8) (h9 : kd ≠ 9) (h10 : kd ≠ 10) : wholeB (.mk kd n s keys kids) = true := by simp [wholeB, T.kind, h6, h7, h8, h9, h10]
end

set_option maxHeartbeats 1000000 in
theorem whole_object (n : Int) (s : ByteArray) (keys : List Int) (kids : List T) (v : Value) (w : World) (hr : Rep w (.mk 8 n s keys kids) v) :
    Calls Tryd.prog 67 #[v] w fun e w' => e = .returned (.bool (wholeB (.mk 8 n s keys kids))) ∧ Below w.heap.size w w' := by
  obtain ⟨ka, va, kc, vc, rfl, _, _, hs, hkl, hvl, hkeys, hkids⟩ := rep_mk hr
  have hr1 := Rep.mono (same_alloc w (.cells #[.int .i64 8, .int .i64 n, .string s, .slice ka keys.length kc, .slice va kids.length vc] 25)) _ _ hr
  go_enter Tryd.func67, Tryd.ntmps67
  go_wp2_with (first | (go_at_call 65; refine (bare_any _ _ _ hr1 true false true true).mono ?_; rintro e w1 ⟨rfl, hb1⟩; obtain ⟨x0, x1, x2, x3, x4⟩ := box_at (box_first hb1)) | (go_at_call 96; refine (keys_any keys ka kc 2147483647 true _ hkl (hkeys.mono (Same.of_box (box_first (by assumption))))).mono ?_; rintro e w2 ⟨rfl, hb2⟩))
  all_goals
    go_ret
    refine ⟨ret_bool ?_, box_out (by first | exact box_next (box_first hb1) hb2 | exact box_first hb1)⟩
    clear hr hr1 hkids hkeys x0 x1 x2 x3 x4
    rw [wholeB_object]
    simp only [*]
    simp
    first | done | (intros; omega)

set_option maxHeartbeats 1000000 in
theorem whole_choice (n : Int) (s : ByteArray) (keys : List Int) (kids : List T) (v : Value) (w : World) (hr : Rep w (.mk 9 n s keys kids) v) :
    Calls Tryd.prog 67 #[v] w fun e w' => e = .returned (.bool (wholeB (.mk 9 n s keys kids))) ∧ Below w.heap.size w w' := by
  obtain ⟨ka, va, kc, vc, rfl, _, _, hs, hkl, hvl, hkeys, hkids⟩ := rep_mk hr
  have hr1 := Rep.mono (same_alloc w (.cells #[.int .i64 9, .int .i64 n, .string s, .slice ka keys.length kc, .slice va kids.length vc] 25)) _ _ hr
  go_enter Tryd.func67, Tryd.ntmps67
  go_wp2_with (first | (go_at_call 65; refine (bare_any _ _ _ hr1 true false false true).mono ?_; rintro e w1 ⟨rfl, hb1⟩; obtain ⟨x0, x1, x2, x3, x4⟩ := box_at (box_first hb1)) | (go_at_call 97; refine (numbers_any n kids va vc _ hvl (KidsIn.mono (Same.of_box (box_first (by assumption))) _ _ _ hkids)).mono ?_; rintro e w2 ⟨rfl, hb2⟩))
  all_goals
    go_ret
    refine ⟨ret_bool ?_, box_out (by first | exact box_next (box_first hb1) hb2 | exact box_first hb1)⟩
    clear hr hr1 hkids hkeys x0 x1 x2 x3 x4
    rw [wholeB_choice]
    simp only [*]
    simp

set_option maxHeartbeats 1000000 in
theorem whole_struct (n : Int) (s : ByteArray) (keys : List Int) (kids : List T) (v : Value) (w : World) (hr : Rep w (.mk 7 n s keys kids) v) :
    Calls Tryd.prog 67 #[v] w fun e w' => e = .returned (.bool (wholeB (.mk 7 n s keys kids))) ∧ Below w.heap.size w w' := by
  obtain ⟨ka, va, kc, vc, rfl, _, _, hs, hkl, hvl, hkeys, hkids⟩ := rep_mk hr
  have hr1 := Rep.mono (same_alloc w (.cells #[.int .i64 7, .int .i64 n, .string s, .slice ka keys.length kc, .slice va kids.length vc] 25)) _ _ hr
  go_enter Tryd.func67, Tryd.ntmps67
  go_wp2_with (go_at_call 65; refine (bare_any _ _ _ hr1 false false false true).mono ?_; rintro e w1 ⟨rfl, hb1⟩)
  go_ret
  exact ⟨ret_bool (by rw [wholeB_struct]), box_out (box_first hb1)⟩

set_option maxHeartbeats 1000000 in
theorem whole_other (kd n : Int) (s : ByteArray) (keys : List Int) (kids : List T) (v : Value) (w : World) (hr : Rep w (.mk kd n s keys kids) v) (h6 : kd ≠ 6) (h7 : kd ≠ 7) (h8 : kd ≠ 8) (h9 : kd ≠ 9) (h10 : kd ≠ 10) :
    Calls Tryd.prog 67 #[v] w fun e w' => e = .returned (.bool (wholeB (.mk kd n s keys kids))) ∧ Below w.heap.size w w' := by
  obtain ⟨ka, va, kc, vc, rfl, _, _, hs, hkl, hvl, hkeys, hkids⟩ := rep_mk hr
  have HW := Lib.hid (wholeB_other n s keys kids h6 h7 h8 h9 h10)
  have e6 : (kd == 6) = false := by simp [h6]
  have e7 : (kd == 7) = false := by simp [h7]
  have e8 : (kd == 8) = false := by simp [h8]
  have e9 : (kd == 9) = false := by simp [h9]
  have e10 : (kd == 10) = false := by simp [h10]
  clear h6 h7 h8 h9 h10
  go_enter Tryd.func67, Tryd.ntmps67
  go_wp2_with fail
  go_ret
  exact ⟨ret_bool HW.out.symm, (Below.refl _ _).alloc (Nat.le_refl _) _⟩

set_option maxHeartbeats 1000000 in
theorem whole_list (n : Int) (s : ByteArray) (keys : List Int) (kids : List T) (v : Value) (w : World) (hr : Rep w (.mk 6 n s keys kids) v) :
    Calls Tryd.prog 67 #[v] w fun e w' => e = .returned (.bool (wholeB (.mk 6 n s keys kids))) ∧ Below w.heap.size w w' := by
  obtain ⟨ka, va, kc, vc, rfl, _, _, hs, hkl, hvl, hkeys, hkids⟩ := rep_mk hr
  go_enter Tryd.func67, Tryd.ntmps67
  go_wp2_with fail
  go_loopw [3] (fun i wr => ∃ (k : Nat), i = .int .i64 k ∧ k ≤ kids.length ∧ (∀ j, (h : j < kids.length) → j < k → (fun t : T => decide (t.kind = (kids.head?.map T.kind).getD 0) && (decide (t.kind = 2) || decide (t.kind = 3) || decide (t.kind = 4))) kids[j] = true) ∧ Below (w.heap.size + 1) (w.alloc (.cells #[.int .i64 6, .int .i64 n, .string s, .slice ka keys.length kc, .slice va kids.length vc] 25)) wr) (fun i _ => kids.length - (intOf i).toNat)
  case atStart => exact ⟨0, rfl, Nat.zero_le _, fun _ _ h => absurd h (Nat.not_lt_zero _), Below.refl _ _⟩
  case round =>
    obtain ⟨k, rfl, hkl', hok, hb⟩ := hrel
    have Hok := Lib.hid hok
    clear hok
    obtain ⟨x0, x1, x2, x3, x4⟩ := box_at hb
    have hkw := KidsIn.mono (Same.of_box hb) _ _ _ hkids
    by_cases hlt : k < kids.length
    · obtain ⟨b, off, va', vb', s', keys', kids', kd, n', rfl, hlk, g0, _, _, _, _, _, _, _⟩ := kid_at hkw k hlt
      obtain ⟨b', off', va'', vb'', s'', keys'', kids'', kd0, n'', hbo, hl0, f0, _, _, _, _, _, _, _⟩ := kid_at hkw 0 (by omega)
      cases hbo
      simp only [Nat.zero_mul, Nat.add_zero] at f0
      have Hhead : Hid ((kids.head?.map T.kind).getD 0 = kd0) := Lib.hid (by
        rw [List.head?_eq_getElem?, List.getElem?_eq_getElem (by omega : 0 < kids.length), hl0]; rfl)
      have Hlk := Lib.hid hlk
      clear hlk hl0
      have hbad : ∀ b : Bool, (decide (kd = kd0) && (decide (kd = 2) || decide (kd = 3) || decide (kd = 4))) = false → wholeB (.mk 6 n s keys kids) = false := fun _ hf => by
        have : listOk kids = false := by
          unfold listOk
          rw [List.all_eq_false]
          refine ⟨kids[k], List.getElem_mem hlt, ?_⟩
          rw [Hhead.out, Hlk.out]
          show ¬ (decide (kd = kd0) && (decide (kd = 2) || decide (kd = 3) || decide (kd = 4))) = true
          rw [hf]; simp
        rw [wholeB_list, this, Bool.false_and]
      have hgood : (decide (kd = kd0) && (decide (kd = 2) || decide (kd = 3) || decide (kd = 4))) = true → ∀ j, (h : j < kids.length) → j < k + 1 → (fun t : T => decide (t.kind = (kids.head?.map T.kind).getD 0) && (decide (t.kind = 2) || decide (t.kind = 3) || decide (t.kind = 4))) kids[j] = true := fun hf j hj hj' => by
        by_cases e : j = k
        · subst e
          show (decide (kids[j].kind = _) && _) = true
          rw [Hhead.out, Hlk.out]
          exact hf
        · exact Hok.out j hj (by omega)
      have Hbad := Lib.hid hbad
      have Hgood := Lib.hid hgood
      clear hbad hgood
      by_cases c0 : kd = kd0
      · subst c0
        go_wp2_with fail
        all_goals first
          | (go_ret
             exact ⟨ret_bool (Hbad.out true (by clear Hok Hbad Hgood; simp_all)).symm, box_out hb⟩)
          | (go_roundw
             case rel => exact ⟨k + 1, by go_num, by omega, Hgood.out (by clear Hok Hbad Hgood; simp_all), hb⟩
             case measure => simp [intOf]; omega)
      · have c0' : (kd == kd0) = false := by simp [c0]
        have C0 := Lib.hid c0
        clear c0
        go_wp2_with fail
        go_ret
        exact ⟨ret_bool (Hbad.out true (by simp [C0.out])).symm, box_out hb⟩
    · have hall : Hid (listOk kids = true) := Lib.hid (by
        unfold listOk; rw [List.all_eq_true]; intro t ht; obtain ⟨j, hj, rfl⟩ := List.getElem_of_mem ht; exact Hok.out j hj (by omega))
      have hr1 := Rep.mono (Same.of_box hb) _ _ hr
      go_wp2_with (go_at_call 65; refine (bare_any _ _ _ hr1 false false false true).mono ?_; rintro e w1 ⟨rfl, hb1⟩)
      go_ret
      exact ⟨ret_bool (by rw [wholeB_list, hall.out, Bool.true_and]), box_out (box_next hb hb1)⟩

set_option maxHeartbeats 1000000 in
theorem whole_sequence (n : Int) (s : ByteArray) (keys : List Int) (kids : List T) (v : Value) (w : World) (hr : Rep w (.mk 10 n s keys kids) v) :
    Calls Tryd.prog 67 #[v] w fun e w' => e = .returned (.bool (wholeB (.mk 10 n s keys kids))) ∧ Below w.heap.size w w' := by
  obtain ⟨ka, va, kc, vc, rfl, _, _, hs, hkl, hvl, hkeys, hkids⟩ := rep_mk hr
  go_enter Tryd.func67, Tryd.ntmps67
  go_wp2_with fail
  go_loopw [5] (fun i wr => ∃ (k : Nat), i = .int .i64 k ∧ k ≤ kids.length ∧ (∀ j, (h : j < kids.length) → j < k → (fun x : T => !decide (x.kind = 10)) kids[j] = true) ∧ Below (w.heap.size + 1) (w.alloc (.cells #[.int .i64 10, .int .i64 n, .string s, .slice ka keys.length kc, .slice va kids.length vc] 25)) wr) (fun i _ => kids.length - (intOf i).toNat)
  case atStart => exact ⟨0, rfl, Nat.zero_le _, fun _ _ h => absurd h (Nat.not_lt_zero _), Below.refl _ _⟩
  case round =>
    obtain ⟨k, rfl, hkl', hok, hb⟩ := hrel
    have Hok := Lib.hid hok
    clear hok
    obtain ⟨x0, x1, x2, x3, x4⟩ := box_at hb
    have hkw := KidsIn.mono (Same.of_box hb) _ _ _ hkids
    by_cases hlt : k < kids.length
    · obtain ⟨b, off, va', vb', s', keys', kids', kd, n', rfl, hlk, g0, _, _, _, _, _, _, _⟩ := kid_at hkw k hlt
      have Hlk := Lib.hid hlk
      clear hlk
      by_cases c0 : kd = 10
      · subst c0
        go_wp2_with fail
        go_ret
        refine ⟨ret_bool ?_, box_out hb⟩
        have : (kids.all fun x => !decide (x.kind = 10)) = false := by
          rw [List.all_eq_false]; exact ⟨kids[k], List.getElem_mem hlt, by rw [Hlk.out]; simp [T.kind]⟩
        rw [wholeB_sequence, this]; simp
      · have c0' : (kd == 10) = false := by simp [c0]
        have C0 := Lib.hid c0
        clear c0
        go_wp2_with fail
        go_roundw
        case rel =>
          refine ⟨k + 1, by go_num, by omega, fun j hj hj' => ?_, hb⟩
          by_cases e : j = k
          · subst e; show (!decide (kids[j].kind = 10)) = true; rw [Hlk.out]; simp [T.kind, C0.out]
          · exact Hok.out j hj (by omega)
        case measure => simp [intOf]; omega
    · have hall : Hid ((kids.all fun x => !decide (x.kind = 10)) = true) := Lib.hid (by
        rw [List.all_eq_true]; intro t ht; obtain ⟨j, hj, rfl⟩ := List.getElem_of_mem ht; exact Hok.out j hj (by omega))
      have hr1 := Rep.mono (Same.of_box hb) _ _ hr
      clear hkw
      go_wp2_with (first | (go_at_call 65; refine (bare_any _ _ _ hr1 false false true true).mono ?_; rintro e w1 ⟨rfl, hb1⟩; have hb2 := box_next hb hb1; obtain ⟨y0, y1, y2, y3, y4⟩ := box_at hb2) | (go_at_call 96; refine (keys_any keys ka kc 1000000000 false _ hkl (hkeys.mono (Same.of_box (by assumption)))).mono ?_; rintro e w2 ⟨rfl, hb3⟩))
      all_goals
        go_ret
        refine ⟨ret_bool ?_, box_out (by first | exact box_next hb2 hb3 | exact hb2)⟩
        rw [wholeB_sequence, hall.out]
        clear hr hr1 hkids hkeys x0 x1 x2 x3 x4 y0 y1 y2 y3 y4
        simp only [*]
        simp
        first | done | (intros; omega)

theorem whole_any (t : T) (v : Value) (w : World) (hr : Rep w t v) :
    Calls Tryd.prog 67 #[v] w fun e w' => e = .returned (.bool (wholeB t)) ∧ Below w.heap.size w w' := by
  obtain ⟨kd, n, s, keys, kids⟩ := t
  by_cases h6 : kd = 6
  · subst h6; exact whole_list n s keys kids v w hr
  by_cases h7 : kd = 7
  · subst h7; exact whole_struct n s keys kids v w hr
  by_cases h8 : kd = 8
  · subst h8; exact whole_object n s keys kids v w hr
  by_cases h9 : kd = 9
  · subst h9; exact whole_choice n s keys kids v w hr
  by_cases h10 : kd = 10
  · subst h10; exact whole_sequence n s keys kids v w hr
  exact whole_other kd n s keys kids v w hr h6 h7 h8 h9 h10
end Go.Proofs.YtfbeeaibejggdaaDoor
