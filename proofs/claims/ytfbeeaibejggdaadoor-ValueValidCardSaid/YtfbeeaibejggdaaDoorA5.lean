import Derived.Test.YtfbeeaibejggdaaDoorA4
namespace Go.Proofs.YtfbeeaibejggdaaDoor
open Go.RowKit

theorem str_at {s : ByteArray} {k : Nat} (h : k < s.size) : s.data.getD k 0 = s[k] := by
  show (if h : k < s.data.size then s.data[k] else 0) = s.data[k]
  rw [dif_pos]

theorem not_f {b : Bool} (h : (!b) = false) : b = true := by simpa using h
theorem not_t {b : Bool} (h : (!b) = true) : b = false := by simpa using h

def noZero (s : ByteArray) : Bool := (List.range s.size).all fun i => !((s.data.getD i 0).toNat == 0)

mutual
def shapedB : T → Bool
  | .mk k n s keys kids =>
    if k = 1 then bareB (.mk k n s keys kids) false false false false
    else if k = 2 then bareB (.mk k n s keys kids) true false false false && (decide (n = 0) || decide (n = 1))
    else if k = 3 then bareB (.mk k n s keys kids) true false false false
    else if k = 4 then bareB (.mk k n s keys kids) false true false false && noZero s
    else if k = 5 then bareB (.mk k n s keys kids) false true false false
    else decide (6 ≤ k) && decide (k ≤ 10) && shapedL kids && wholeB (.mk k n s keys kids)
def shapedL : List T → Bool
  | [] => true
  | t :: r => shapedB t && shapedL r
end

theorem shapedL_yes : ∀ (l : List T), (∀ j, (h : j < l.length) → shapedB l[j] = true) → shapedL l = true
  | [], _ => by simp [shapedL]
  | t :: r, h => by
    rw [shapedL, shapedL_yes r (fun j hj => by have := h (j + 1) (by simpa using hj); simpa using this)]
    have := h 0 (by simp)
    simpa using this
theorem shapedL_no : ∀ (l : List T) (j : Nat) (h : j < l.length), shapedB l[j] = false → shapedL l = false
  | [], _, h, _ => absurd h (Nat.not_lt_zero _)
  | t :: r, j, h, hf => by
    rw [shapedL]
    cases j with
    | zero => have : shapedB t = false := by simpa using hf
              rw [this, Bool.false_and]
    | succ j => rw [shapedL_no r j (by simpa using h) (by simpa using hf), Bool.and_false]

def ShapedAt (t : T) : Prop := ∀ (v : Value) (w : World), Rep w t v → Calls Tryd.prog 39 #[v] w fun e w' => e = .returned (.bool (shapedB t)) ∧ Below w.heap.size w w'

set_option maxHeartbeats 1000000 in
theorem shapedKids_of (t : T) (ih : ∀ j, (h : j < t.kids.length) → ShapedAt t.kids[j]) (v : Value) (w : World) (hr : Rep w t v) :
    Calls Tryd.prog 66 #[v] w fun e w' => e = .returned (.bool (shapedL t.kids)) ∧ Below w.heap.size w w' := by
  obtain ⟨kd, n, s, keys, kids⟩ := t
  simp only [T.kids] at ih ⊢
  obtain ⟨ka, va, kc, vc, rfl, _, _, hs, hkl, hvl, hkeys, hkids⟩ := rep_mk hr
  go_enter Tryd.func66, Tryd.ntmps66
  go_wp2_with fail
  go_loopw [3] (fun i wr => ∃ (k : Nat), i = .int .i64 k ∧ k ≤ kids.length ∧ (∀ j, (h : j < kids.length) → j < k → shapedB kids[j] = true) ∧ Below (w.heap.size + 1) (w.alloc (.cells #[.int .i64 kd, .int .i64 n, .string s, .slice ka keys.length kc, .slice va kids.length vc] 25)) wr) (fun i _ => kids.length - (intOf i).toNat)
  case atStart => exact ⟨0, rfl, Nat.zero_le _, fun _ _ h => absurd h (Nat.not_lt_zero _), Below.refl _ _⟩
  case round =>
    obtain ⟨k, rfl, hkl', hok, hb⟩ := hrel
    have Hok := Lib.hid hok
    clear hok
    obtain ⟨x0, x1, x2, x3, x4⟩ := box_at hb
    have hkw := KidsIn.mono (Same.of_box hb) _ _ _ hkids
    by_cases hlt : k < kids.length
    · obtain ⟨b, off, v0, v1, v2, v3, v4, rfl, g0, g1, g2, g3, g4, hrk⟩ := KidsIn.at kids 0 k hlt hkw
      simp only [Nat.zero_add] at g0 g1 g2 g3 g4
      go_wp2_with (go_at_call 39; refine (ih k hlt _ _ hrk).mono ?_; rintro e w1 ⟨rfl, hb1⟩)
      · go_ret
        refine ⟨ret_bool ?_, box_out (box_next hb hb1)⟩
        have : shapedB kids[k] = false := by rename_i h; simpa using h
        exact (shapedL_no kids k hlt this).symm
      · have hs : shapedB kids[k] = true := by rename_i h; simpa using h
        go_roundw
        case rel =>
          refine ⟨k + 1, by go_num, by omega, fun j hj hj' => ?_, box_next hb hb1⟩
          by_cases e : j = k
          · subst e; exact hs
          · exact Hok.out j hj (by omega)
        case measure => simp [intOf]; omega
    · go_wp2_with fail
      go_ret
      exact ⟨ret_bool (shapedL_yes kids fun j hj => Hok.out j hj (by omega)).symm, box_out hb⟩

set_option maxHeartbeats 1000000 in
theorem shaped_none (n : Int) (s : ByteArray) (keys : List Int) (kids : List T) (v : Value) (w : World) (hr : Rep w (.mk 1 n s keys kids) v) :
    Calls Tryd.prog 39 #[v] w fun e w' => e = .returned (.bool (shapedB (.mk 1 n s keys kids))) ∧ Below w.heap.size w w' := by
  obtain ⟨ka, va, kc, vc, rfl, _, _, hs, hkl, hvl, hkeys, hkids⟩ := rep_mk hr
  have hr1 := Rep.mono (same_alloc w (.cells #[.int .i64 1, .int .i64 n, .string s, .slice ka keys.length kc, .slice va kids.length vc] 25)) _ _ hr
  go_enter Tryd.func39, Tryd.ntmps39
  go_wp2_with (go_at_call 65; refine (bare_any _ _ _ hr1 false false false false).mono ?_; rintro e w1 ⟨rfl, hb1⟩)
  go_ret
  exact ⟨ret_bool rfl, box_out (box_first hb1)⟩

set_option maxHeartbeats 1000000 in
theorem shaped_int (n : Int) (s : ByteArray) (keys : List Int) (kids : List T) (v : Value) (w : World) (hr : Rep w (.mk 3 n s keys kids) v) :
    Calls Tryd.prog 39 #[v] w fun e w' => e = .returned (.bool (shapedB (.mk 3 n s keys kids))) ∧ Below w.heap.size w w' := by
  obtain ⟨ka, va, kc, vc, rfl, _, _, hs, hkl, hvl, hkeys, hkids⟩ := rep_mk hr
  have hr1 := Rep.mono (same_alloc w (.cells #[.int .i64 3, .int .i64 n, .string s, .slice ka keys.length kc, .slice va kids.length vc] 25)) _ _ hr
  go_enter Tryd.func39, Tryd.ntmps39
  go_wp2_with (go_at_call 65; refine (bare_any _ _ _ hr1 true false false false).mono ?_; rintro e w1 ⟨rfl, hb1⟩)
  go_ret
  exact ⟨ret_bool rfl, box_out (box_first hb1)⟩

set_option maxHeartbeats 1000000 in
theorem shaped_bytes (n : Int) (s : ByteArray) (keys : List Int) (kids : List T) (v : Value) (w : World) (hr : Rep w (.mk 5 n s keys kids) v) :
    Calls Tryd.prog 39 #[v] w fun e w' => e = .returned (.bool (shapedB (.mk 5 n s keys kids))) ∧ Below w.heap.size w w' := by
  obtain ⟨ka, va, kc, vc, rfl, _, _, hs, hkl, hvl, hkeys, hkids⟩ := rep_mk hr
  have hr1 := Rep.mono (same_alloc w (.cells #[.int .i64 5, .int .i64 n, .string s, .slice ka keys.length kc, .slice va kids.length vc] 25)) _ _ hr
  go_enter Tryd.func39, Tryd.ntmps39
  go_wp2_with (go_at_call 65; refine (bare_any _ _ _ hr1 false true false false).mono ?_; rintro e w1 ⟨rfl, hb1⟩)
  go_ret
  exact ⟨ret_bool rfl, box_out (box_first hb1)⟩

set_option maxHeartbeats 1000000 in
theorem shaped_bool (n : Int) (s : ByteArray) (keys : List Int) (kids : List T) (v : Value) (w : World) (hr : Rep w (.mk 2 n s keys kids) v) :
    Calls Tryd.prog 39 #[v] w fun e w' => e = .returned (.bool (shapedB (.mk 2 n s keys kids))) ∧ Below w.heap.size w w' := by
  obtain ⟨ka, va, kc, vc, rfl, _, _, hs, hkl, hvl, hkeys, hkids⟩ := rep_mk hr
  have hr1 := Rep.mono (same_alloc w (.cells #[.int .i64 2, .int .i64 n, .string s, .slice ka keys.length kc, .slice va kids.length vc] 25)) _ _ hr
  have hS : Hid (shapedB (.mk 2 n s keys kids) = (bareB (.mk 2 n s keys kids) true false false false && (decide (n = 0) || decide (n = 1)))) := Lib.hid rfl
  go_enter Tryd.func39, Tryd.ntmps39
  go_wp2_with (go_at_call 65; refine (bare_any _ _ _ hr1 true false false false).mono ?_; rintro e w1 ⟨rfl, hb1⟩; obtain ⟨x0, x1, x2, x3, x4⟩ := box_at (box_first hb1))
  all_goals
    go_ret
    refine ⟨ret_bool ?_, box_out (box_first hb1)⟩
    rw [hS.out]
    clear hr hr1 hkids hkeys
    try clear x0 x1 x2 x3 x4
    by_cases h1 : n = 1 <;> simp_all

set_option maxHeartbeats 1000000 in
theorem shaped_text (n : Int) (s : ByteArray) (keys : List Int) (kids : List T) (v : Value) (w : World) (hr : Rep w (.mk 4 n s keys kids) v) :
    Calls Tryd.prog 39 #[v] w fun e w' => e = .returned (.bool (shapedB (.mk 4 n s keys kids))) ∧ Below w.heap.size w w' := by
  obtain ⟨ka, va, kc, vc, rfl, _, _, hs, hkl, hvl, hkeys, hkids⟩ := rep_mk hr
  have hr1 := Rep.mono (same_alloc w (.cells #[.int .i64 4, .int .i64 n, .string s, .slice ka keys.length kc, .slice va kids.length vc] 25)) _ _ hr
  have hS : Hid (shapedB (.mk 4 n s keys kids) = (bareB (.mk 4 n s keys kids) false true false false && noZero s)) := Lib.hid rfl
  go_enter Tryd.func39, Tryd.ntmps39
  go_wp2_with (go_at_call 65; refine (bare_any _ _ _ hr1 false true false false).mono ?_; rintro e w1 ⟨rfl, hb1⟩)
  · go_ret
    refine ⟨ret_bool ?_, box_out (box_first hb1)⟩
    rw [hS.out]
    have : bareB (.mk 4 n s keys kids) false true false false = false := by rename_i h; simpa using h
    rw [this, Bool.false_and]
  · have hB : Hid (bareB (.mk 4 n s keys kids) false true false false = true) := Lib.hid (not_f (by assumption))
    go_loopw [3] (fun i wr => ∃ (k : Nat), i = .int .i64 k ∧ k ≤ s.size ∧ (∀ j, j < k → (fun i => !((s.data.getD i 0).toNat == 0)) j = true) ∧ Below (w.heap.size + 1) (w.alloc (.cells #[.int .i64 4, .int .i64 n, .string s, .slice ka keys.length kc, .slice va kids.length vc] 25)) wr) (fun i _ => s.size - (intOf i).toNat)
    case atStart => exact ⟨0, rfl, Nat.zero_le _, fun _ h => absurd h (Nat.not_lt_zero _), box_first hb1⟩
    case round =>
      clear hb1
      obtain ⟨k, rfl, hkl', hok, hb⟩ := hrel
      have Hok := Lib.hid hok
      clear hok
      obtain ⟨x0, x1, x2, x3, x4⟩ := box_at hb
      by_cases hlt : k < s.size
      · go_wp2_with fail
        · go_ret
          refine ⟨ret_bool ?_, box_out hb⟩
          have h0 : ((s[k].toNat : Int) == 0) = true := by assumption
          rw [hS.out, hB.out, Bool.true_and]
          refine (all_no hlt ?_).symm
          rw [str_at hlt]
          simp at h0 ⊢
          exact h0
        · have h0 : ((s[k].toNat : Int) == 0) = false := by assumption
          go_roundw
          case rel =>
            refine ⟨k + 1, by go_num, by omega, ok_snoc Hok ?_, hb⟩
            simp only [str_at hlt]
            simp at h0 ⊢
            exact h0
          case measure => simp [intOf]; omega
      · go_wp2_with fail
        go_ret
        refine ⟨ret_bool ?_, box_out hb⟩
        rw [hS.out, hB.out, Bool.true_and]
        exact (all_yes fun j hj => Hok.out j (by omega)).symm

set_option maxHeartbeats 1000000 in
theorem shaped_more (kd n : Int) (s : ByteArray) (keys : List Int) (kids : List T) (v : Value) (w : World) (hr : Rep w (.mk kd n s keys kids) v) (ih : ∀ j, (h : j < kids.length) → ShapedAt kids[j])
    (h1 : kd ≠ 1) (h2 : kd ≠ 2) (h3 : kd ≠ 3) (h4 : kd ≠ 4) (h5 : kd ≠ 5) :
    Calls Tryd.prog 39 #[v] w fun e w' => e = .returned (.bool (shapedB (.mk kd n s keys kids))) ∧ Below w.heap.size w w' := by
  obtain ⟨ka, va, kc, vc, rfl, _, _, hs, hkl, hvl, hkeys, hkids⟩ := rep_mk hr
  have hr1 := Rep.mono (same_alloc w (.cells #[.int .i64 kd, .int .i64 n, .string s, .slice ka keys.length kc, .slice va kids.length vc] 25)) _ _ hr
  have HS : Hid (shapedB (.mk kd n s keys kids) = (decide (6 ≤ kd) && decide (kd ≤ 10) && shapedL kids && wholeB (.mk kd n s keys kids))) := Lib.hid (by rw [shapedB]; simp [h1, h2, h3, h4, h5])
  have e1 : (kd == 1) = false := by simp [h1]
  have e2 : (kd == 2) = false := by simp [h2]
  have e3 : (kd == 3) = false := by simp [h3]
  have e4 : (kd == 4) = false := by simp [h4]
  have e5 : (kd == 5) = false := by simp [h5]
  clear h1 h2 h3 h4 h5
  go_enter Tryd.func39, Tryd.ntmps39
  go_wp2_with (first | (go_at_call 66; refine (shapedKids_of (.mk kd n s keys kids) ih _ _ hr1).mono ?_; rintro e w1 ⟨rfl, hb1⟩; have hb2 := box_first hb1; obtain ⟨x0, x1, x2, x3, x4⟩ := box_at hb2) | (go_at_call 67; refine (whole_any _ _ _ (Rep.mono (Same.of_box (by assumption)) _ _ hr)).mono ?_; rintro e w2 ⟨rfl, hb3⟩))
  all_goals
    go_ret
    refine ⟨ret_bool ?_, by first | exact box_out (box_next hb2 hb3) | exact box_out hb2 | exact (Below.refl _ _).alloc (Nat.le_refl _) _⟩
    rw [HS.out]
    clear hr hr1 hkids hkeys
    try clear x0 x1 x2 x3 x4
    try simp only [T.kids] at *
    try simp only [*]
    try simp
    first | done | (intros; omega)

theorem shaped_step (t : T) (ih : ∀ j, (h : j < t.kids.length) → ShapedAt t.kids[j]) : ShapedAt t := by
  obtain ⟨kd, n, s, keys, kids⟩ := t
  intro v w hr
  by_cases h1 : kd = 1
  · subst h1; exact shaped_none n s keys kids v w hr
  by_cases h2 : kd = 2
  · subst h2; exact shaped_bool n s keys kids v w hr
  by_cases h3 : kd = 3
  · subst h3; exact shaped_int n s keys kids v w hr
  by_cases h4 : kd = 4
  · subst h4; exact shaped_text n s keys kids v w hr
  by_cases h5 : kd = 5
  · subst h5; exact shaped_bytes n s keys kids v w hr
  exact shaped_more kd n s keys kids v w hr ih h1 h2 h3 h4 h5

theorem shaped_all (N : Nat) : ∀ t : T, SizeOf.sizeOf t ≤ N → ShapedAt t := by
  induction N with
  | zero => intro t; cases t; intro h; simp at h
  | succ N ih =>
    intro t ht
    refine shaped_step t fun j hj => ih _ ?_
    obtain ⟨kd, n, s, keys, kids⟩ := t
    exact kid_size ht hj

theorem shaped_any (t : T) : ShapedAt t := shaped_all _ t (Nat.le_refl _)
end Go.Proofs.YtfbeeaibejggdaaDoor
