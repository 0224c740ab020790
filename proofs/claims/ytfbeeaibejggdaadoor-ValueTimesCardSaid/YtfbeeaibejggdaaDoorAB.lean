import Derived.Test.YtfbeeaibejggdaaDoorAA
import Derived.Laws.BytesArg
import Derived.Deep.CutBlock
import Derived.Deep.DeepCutAuto
import Derived.Deep.RegionHeld3
namespace Go.Proofs.YtfbeeaibejggdaaDoor
open Go.RowKit

theorem str_at {s : ByteArray} {k : Nat} (h : k < s.size) : s.data.getD k 0 = s[k] := by
  show (if h : k < s.data.size then s.data[k] else 0) = s.data[k]
  rw [dif_pos]

theorem not_f {b : Bool} (h : (!b) = false) : b = true := by simpa using h
theorem not_t {b : Bool} (h : (!b) = true) : b = false := by simpa using h

def noZero (s : ByteArray) : Bool := (List.range s.size).all fun i => !((s.data.getD i 0).toNat == 0)

mutual
def shapedB : T → Bool
  | .mk k n s keys kids =>
    if k = 1 then bareB (.mk k n s keys kids) false false false false
    else if k = 2 then bareB (.mk k n s keys kids) true false false false && (decide (n = 0) || decide (n = 1))
    else if k = 3 then bareB (.mk k n s keys kids) true false false false
    else if k = 4 then bareB (.mk k n s keys kids) false true false false && noZero s
    else if k = 5 then bareB (.mk k n s keys kids) false true false false
    else decide (6 ≤ k) && decide (k ≤ 10) && shapedL kids && wholeB (.mk k n s keys kids)
def shapedL : List T → Bool
  | [] => true
  | t :: r => shapedB t && shapedL r
end

theorem shapedL_yes : ∀ (l : List T), (∀ j, (h : j < l.length) → shapedB l[j] = true) → shapedL l = true
  | [], _ => by simp [shapedL]
  | t :: r, h => by
    rw [shapedL, shapedL_yes r (fun j hj => by have := h (j + 1) (by simpa using hj); simpa using this)]
    have := h 0 (by simp)
    simpa using this
theorem shapedL_no : ∀ (l : List T) (j : Nat) (h : j < l.length), shapedB l[j] = false → shapedL l = false
  | [], _, h, _ => absurd h (Nat.not_lt_zero _)
  | t :: r, j, h, hf => by
    rw [shapedL]
    cases j with
    | zero => have : shapedB t = false := by simpa using hf
              rw [this, Bool.false_and]
    | succ j => rw [shapedL_no r j (by simpa using h) (by simpa using hf), Bool.and_false]

def ShapedAt (t : T) : Prop := ∀ (v : Value) (w : World), Rep w t v → Calls Tryd.prog 39 #[v] w fun e w' => e = .returned (.bool (shapedB t)) ∧ Below w.heap.size w w'

set_option maxHeartbeats 1000000 in
theorem shapedKids_of (t : T) (ih : ∀ j, (h : j < t.kids.length) → ShapedAt t.kids[j]) (v : Value) (w : World) (hr : Rep w t v) :
    Calls Tryd.prog 66 #[v] w fun e w' => e = .returned (.bool (shapedL t.kids)) ∧ Below w.heap.size w w' := by
  obtain ⟨kd, n, s, keys, kids⟩ := t
  simp only [T.kids] at ih ⊢
  obtain ⟨ka, va, kc, vc, rfl, _, _, hs, hkl, hvl, hkeys, hkids⟩ := rep_mk hr
  go_enter Tryd.func66, Tryd.ntmps66
  go_wp2_with fail
  go_loopw [3] (fun i wr => ∃ (k : Nat), i = .int .i64 k ∧ k ≤ kids.length ∧ (∀ j, (h : j < kids.length) → j < k → shapedB kids[j] = true) ∧ Below (w.heap.size + 1) (w.alloc (.cells #[.int .i64 kd, .int .i64 n, .string s, .slice ka keys.length kc, .slice va kids.length vc] 25)) wr) (fun i _ => kids.length - (intOf i).toNat)
  case atStart => exact ⟨0, rfl, Nat.zero_le _, fun _ _ h => absurd h (Nat.not_lt_zero _), Below.refl _ _⟩
  case round =>
    obtain ⟨k, rfl, hkl', hok, hb⟩ := hrel
    have Hok := Lib.hid hok
    clear hok
    obtain ⟨x0, x1, x2, x3, x4⟩ := box_at hb
    have hkw := KidsIn.mono (Same.of_box hb) _ _ _ hkids
    by_cases hlt : k < kids.length
    · obtain ⟨b, off, v0, v1, v2, v3, v4, rfl, g0, g1, g2, g3, g4, hrk⟩ := KidsIn.at kids 0 k hlt hkw
      simp only [Nat.zero_add] at g0 g1 g2 g3 g4
      go_wp2_with (go_at_call 39; refine (ih k hlt _ _ hrk).mono ?_; rintro e w1 ⟨rfl, hb1⟩)
      · go_ret
        refine ⟨ret_bool ?_, box_out (box_next hb hb1)⟩
        have : shapedB kids[k] = false := by rename_i h; simpa using h
        exact (shapedL_no kids k hlt this).symm
      · have hs : shapedB kids[k] = true := by rename_i h; simpa using h
        go_roundw
        case rel =>
          refine ⟨k + 1, by go_num, by omega, fun j hj hj' => ?_, box_next hb hb1⟩
          by_cases e : j = k
          · subst e; exact hs
          · exact Hok.out j hj (by omega)
        case measure => simp [intOf]; omega
    · go_wp2_with fail
      go_ret
      exact ⟨ret_bool (shapedL_yes kids fun j hj => Hok.out j hj (by omega)).symm, box_out hb⟩

set_option maxHeartbeats 1000000 in
theorem shaped_none (n : Int) (s : ByteArray) (keys : List Int) (kids : List T) (v : Value) (w : World) (hr : Rep w (.mk 1 n s keys kids) v) :
    Calls Tryd.prog 39 #[v] w fun e w' => e = .returned (.bool (shapedB (.mk 1 n s keys kids))) ∧ Below w.heap.size w w' := by
  obtain ⟨ka, va, kc, vc, rfl, _, _, hs, hkl, hvl, hkeys, hkids⟩ := rep_mk hr
  have hr1 := Rep.mono (same_alloc w (.cells #[.int .i64 1, .int .i64 n, .string s, .slice ka keys.length kc, .slice va kids.length vc] 25)) _ _ hr
  go_enter Tryd.func39, Tryd.ntmps39
  go_wp2_with (go_at_call 65; refine (bare_any _ _ _ hr1 false false false false).mono ?_; rintro e w1 ⟨rfl, hb1⟩)
  go_ret
  exact ⟨ret_bool rfl, box_out (box_first hb1)⟩

set_option maxHeartbeats 1000000 in
theorem shaped_int (n : Int) (s : ByteArray) (keys : List Int) (kids : List T) (v : Value) (w : World) (hr : Rep w (.mk 3 n s keys kids) v) :
    Calls Tryd.prog 39 #[v] w fun e w' => e = .returned (.bool (shapedB (.mk 3 n s keys kids))) ∧ Below w.heap.size w w' := by
  obtain ⟨ka, va, kc, vc, rfl, _, _, hs, hkl, hvl, hkeys, hkids⟩ := rep_mk hr
  have hr1 := Rep.mono (same_alloc w (.cells #[.int .i64 3, .int .i64 n, .string s, .slice ka keys.length kc, .slice va kids.length vc] 25)) _ _ hr
  go_enter Tryd.func39, Tryd.ntmps39
  go_wp2_with (go_at_call 65; refine (bare_any _ _ _ hr1 true false false false).mono ?_; rintro e w1 ⟨rfl, hb1⟩)
  go_ret
  exact ⟨ret_bool rfl, box_out (box_first hb1)⟩

set_option maxHeartbeats 1000000 in
theorem shaped_bytes (n : Int) (s : ByteArray) (keys : List Int) (kids : List T) (v : Value) (w : World) (hr : Rep w (.mk 5 n s keys kids) v) :
    Calls Tryd.prog 39 #[v] w fun e w' => e = .returned (.bool (shapedB (.mk 5 n s keys kids))) ∧ Below w.heap.size w w' := by
  obtain ⟨ka, va, kc, vc, rfl, _, _, hs, hkl, hvl, hkeys, hkids⟩ := rep_mk hr
  have hr1 := Rep.mono (same_alloc w (.cells #[.int .i64 5, .int .i64 n, .string s, .slice ka keys.length kc, .slice va kids.length vc] 25)) _ _ hr
  go_enter Tryd.func39, Tryd.ntmps39
  go_wp2_with (go_at_call 65; refine (bare_any _ _ _ hr1 false true false false).mono ?_; rintro e w1 ⟨rfl, hb1⟩)
  go_ret
  exact ⟨ret_bool rfl, box_out (box_first hb1)⟩

set_option maxHeartbeats 1000000 in
theorem shaped_bool (n : Int) (s : ByteArray) (keys : List Int) (kids : List T) (v : Value) (w : World) (hr : Rep w (.mk 2 n s keys kids) v) :
    Calls Tryd.prog 39 #[v] w fun e w' => e = .returned (.bool (shapedB (.mk 2 n s keys kids))) ∧ Below w.heap.size w w' := by
  obtain ⟨ka, va, kc, vc, rfl, _, _, hs, hkl, hvl, hkeys, hkids⟩ := rep_mk hr
  have hr1 := Rep.mono (same_alloc w (.cells #[.int .i64 2, .int .i64 n, .string s, .slice ka keys.length kc, .slice va kids.length vc] 25)) _ _ hr
  have hS : Hid (shapedB (.mk 2 n s keys kids) = (bareB (.mk 2 n s keys kids) true false false false && (decide (n = 0) || decide (n = 1)))) := Lib.hid rfl
  go_enter Tryd.func39, Tryd.ntmps39
  go_wp2_with (go_at_call 65; refine (bare_any _ _ _ hr1 true false false false).mono ?_; rintro e w1 ⟨rfl, hb1⟩; obtain ⟨x0, x1, x2, x3, x4⟩ := box_at (box_first hb1))
  all_goals
    go_ret
    refine ⟨ret_bool ?_, box_out (box_first hb1)⟩
    rw [hS.out]
    clear hr hr1 hkids hkeys
    try clear x0 x1 x2 x3 x4
    by_cases h1 : n = 1 <;> simp_all

set_option maxHeartbeats 1000000 in
theorem shaped_text (n : Int) (s : ByteArray) (keys : List Int) (kids : List T) (v : Value) (w : World) (hr : Rep w (.mk 4 n s keys kids) v) :
    Calls Tryd.prog 39 #[v] w fun e w' => e = .returned (.bool (shapedB (.mk 4 n s keys kids))) ∧ Below w.heap.size w w' := by
  obtain ⟨ka, va, kc, vc, rfl, _, _, hs, hkl, hvl, hkeys, hkids⟩ := rep_mk hr
  have hr1 := Rep.mono (same_alloc w (.cells #[.int .i64 4, .int .i64 n, .string s, .slice ka keys.length kc, .slice va kids.length vc] 25)) _ _ hr
  have hS : Hid (shapedB (.mk 4 n s keys kids) = (bareB (.mk 4 n s keys kids) false true false false && noZero s)) := Lib.hid rfl
  go_enter Tryd.func39, Tryd.ntmps39
  go_wp2_with (go_at_call 65; refine (bare_any _ _ _ hr1 false true false false).mono ?_; rintro e w1 ⟨rfl, hb1⟩)
  · go_ret
    refine ⟨ret_bool ?_, box_out (box_first hb1)⟩
    rw [hS.out]
    have : bareB (.mk 4 n s keys kids) false true false false = false := by rename_i h; simpa using h
    rw [this, Bool.false_and]
  · have hB : Hid (bareB (.mk 4 n s keys kids) false true false false = true) := Lib.hid (not_f (by assumption))
    go_loopw [3] (fun i wr => ∃ (k : Nat), i = .int .i64 k ∧ k ≤ s.size ∧ (∀ j, j < k → (fun i => !((s.data.getD i 0).toNat == 0)) j = true) ∧ Below (w.heap.size + 1) (w.alloc (.cells #[.int .i64 4, .int .i64 n, .string s, .slice ka keys.length kc, .slice va kids.length vc] 25)) wr) (fun i _ => s.size - (intOf i).toNat)
    case atStart => exact ⟨0, rfl, Nat.zero_le _, fun _ h => absurd h (Nat.not_lt_zero _), box_first hb1⟩
    case round =>
      clear hb1
      obtain ⟨k, rfl, hkl', hok, hb⟩ := hrel
      have Hok := Lib.hid hok
      clear hok
      obtain ⟨x0, x1, x2, x3, x4⟩ := box_at hb
      by_cases hlt : k < s.size
      · go_wp2_with fail
        · go_ret
          refine ⟨ret_bool ?_, box_out hb⟩
          have h0 : ((s[k].toNat : Int) == 0) = true := by assumption
          rw [hS.out, hB.out, Bool.true_and]
          refine (all_no hlt ?_).symm
          rw [str_at hlt]
          simp at h0 ⊢
          exact h0
        · have h0 : ((s[k].toNat : Int) == 0) = false := by assumption
          go_roundw
          case rel =>
            refine ⟨k + 1, by go_num, by omega, ok_snoc Hok ?_, hb⟩
            simp only [str_at hlt]
            simp at h0 ⊢
            exact h0
          case measure => simp [intOf]; omega
      · go_wp2_with fail
        go_ret
        refine ⟨ret_bool ?_, box_out hb⟩
        rw [hS.out, hB.out, Bool.true_and]
        exact (all_yes fun j hj => Hok.out j (by omega)).symm

set_option maxHeartbeats 1000000 in
theorem shaped_more (kd n : Int) (s : ByteArray) (keys : List Int) (kids : List T) (v : Value) (w : World) (hr : Rep w (.mk kd n s keys kids) v) (ih : ∀ j, (h : j < kids.length) → ShapedAt kids[j])
    (h1 : kd ≠ 1) (h2 : kd ≠ 2) (h3 : kd ≠ 3) (h4 : kd ≠ 4) (h5 : kd ≠ 5) :
    Calls Tryd.prog 39 #[v] w fun e w' => e = .returned (.bool (shapedB (.mk kd n s keys kids))) ∧ Below w.heap.size w w' := by
  obtain ⟨ka, va, kc, vc, rfl, _, _, hs, hkl, hvl, hkeys, hkids⟩ := rep_mk hr
  have hr1 := Rep.mono (same_alloc w (.cells #[.int .i64 kd, .int .i64 n, .string s, .slice ka keys.length kc, .slice va kids.length vc] 25)) _ _ hr
  have HS : Hid (shapedB (.mk kd n s keys kids) = (decide (6 ≤ kd) && decide (kd ≤ 10) && shapedL kids && wholeB (.mk kd n s keys kids))) := Lib.hid (by rw [shapedB]; simp [h1, h2, h3, h4, h5])
  have e1 : (kd == 1) = false := by simp [h1]
  have e2 : (kd == 2) = false := by simp [h2]
  have e3 : (kd == 3) = false := by simp [h3]
  have e4 : (kd == 4) = false := by simp [h4]
  have e5 : (kd == 5) = false := by simp [h5]
  clear h1 h2 h3 h4 h5
  go_enter Tryd.func39, Tryd.ntmps39
  go_wp2_with (first | (go_at_call 66; refine (shapedKids_of (.mk kd n s keys kids) ih _ _ hr1).mono ?_; rintro e w1 ⟨rfl, hb1⟩; have hb2 := box_first hb1; obtain ⟨x0, x1, x2, x3, x4⟩ := box_at hb2) | (go_at_call 67; refine (whole_any _ _ _ (Rep.mono (Same.of_box (by assumption)) _ _ hr)).mono ?_; rintro e w2 ⟨rfl, hb3⟩))
  all_goals
    go_ret
    refine ⟨ret_bool ?_, by first | exact box_out (box_next hb2 hb3) | exact box_out hb2 | exact (Below.refl _ _).alloc (Nat.le_refl _) _⟩
    rw [HS.out]
    clear hr hr1 hkids hkeys
    try clear x0 x1 x2 x3 x4
    try simp only [T.kids] at *
    try simp only [*]
    try simp
    first | done | (intros; omega)

theorem shaped_step (t : T) (ih : ∀ j, (h : j < t.kids.length) → ShapedAt t.kids[j]) : ShapedAt t := by
  obtain ⟨kd, n, s, keys, kids⟩ := t
  intro v w hr
  by_cases h1 : kd = 1
  · subst h1; exact shaped_none n s keys kids v w hr
  by_cases h2 : kd = 2
  · subst h2; exact shaped_bool n s keys kids v w hr
  by_cases h3 : kd = 3
  · subst h3; exact shaped_int n s keys kids v w hr
  by_cases h4 : kd = 4
  · subst h4; exact shaped_text n s keys kids v w hr
  by_cases h5 : kd = 5
  · subst h5; exact shaped_bytes n s keys kids v w hr
  exact shaped_more kd n s keys kids v w hr ih h1 h2 h3 h4 h5

theorem shaped_all (N : Nat) : ∀ t : T, SizeOf.sizeOf t ≤ N → ShapedAt t := by
  induction N with
  | zero => intro t; cases t; intro h; simp at h
  | succ N ih =>
    intro t ht
    refine shaped_step t fun j hj => ih _ ?_
    obtain ⟨kd, n, s, keys, kids⟩ := t
    exact kid_size ht hj

theorem shaped_any (t : T) : ShapedAt t := shaped_all _ t (Nat.le_refl _)
end Go.Proofs.YtfbeeaibejggdaaDoor
namespace Go.Proofs.YtfbeeaibejggdaaDoor
open Go.RowKit

mutual
def countT : T → Nat
  | .mk _ _ _ _ kids => 1 + countL kids
def countL : List T → Nat
  | [] => 0
  | t :: r => countT t + countL r
end
mutual
def deepT : T → Nat
  | .mk _ _ _ _ kids => deepL kids + 1
def deepL : List T → Nat
  | [] => 0
  | t :: r => max (deepT t) (deepL r)
end
theorem countL_append : ∀ (a b : List T), countL (a ++ b) = countL a + countL b
  | [], b => by simp [countL]
  | t :: r, b => by simp only [List.cons_append, countL]; rw [countL_append r b]; omega
theorem deepL_append : ∀ (a b : List T), deepL (a ++ b) = max (deepL a) (deepL b)
  | [], b => by simp [deepL]
  | t :: r, b => by simp only [List.cons_append, deepL]; rw [deepL_append r b]; omega
theorem countL_one (t : T) : countL [t] = countT t := by simp [countL]
theorem deepL_one (t : T) : deepL [t] = deepT t := by simp [deepL]
theorem countL_take (l : List T) (k : Nat) (h : k < l.length) : countL (l.take (k + 1)) = countL (l.take k) + countT l[k] := by rw [take_next l k h, countL_append, countL_one]
theorem deepL_take (l : List T) (k : Nat) (h : k < l.length) : deepL (l.take (k + 1)) = max (deepL (l.take k)) (deepT l[k]) := by rw [take_next l k h, deepL_append, deepL_one]
theorem countL_le (l : List T) (k : Nat) : countL (l.take k) ≤ countL l := by
  have := countL_append (l.take k) (l.drop k)
  rw [List.take_append_drop] at this; omega
theorem deepL_le (l : List T) (k : Nat) : deepL (l.take k) ≤ deepL l := by
  have := deepL_append (l.take k) (l.drop k)
  rw [List.take_append_drop] at this; omega

set_option maxHeartbeats 1000000 in
theorem counted_all (N : Nat) : ∀ (t : T) (v : Value) (w : World), SizeOf.sizeOf t ≤ N → Rep w t v → countT t ≤ 1000000 →
    Calls Tryd.prog 38 #[v] w fun e w' => e = .returned (.int .i64 (countT t)) ∧ Below w.heap.size w w' := by
  induction N with
  | zero => intro t; cases t; intro _ _ h; simp at h
  | succ N ih =>
    rintro ⟨kd, n, s, keys, kids⟩ v w hN hr hc
    obtain ⟨ka, va, kc, vc, rfl, _, _, hs, hkl, hvl, _, hkids⟩ := rep_mk hr
    rw [countT] at hc
    go_enter Tryd.func38, Tryd.ntmps38
    go_wp2_with fail
    go_loopw [3, 4] (fun l i wr => ∃ (k : Nat), i = .int .i64 k ∧ k ≤ kids.length ∧ l = .int .i64 (1 + countL (kids.take k) : Nat) ∧ Below (w.heap.size + 1) (w.alloc (.cells #[.int .i64 kd, .int .i64 n, .string s, .slice ka keys.length kc, .slice va kids.length vc] 25)) wr) (fun _ i _ => kids.length - (intOf i).toNat)
    case atStart => exact ⟨0, rfl, Nat.zero_le _, by simp [countL], Below.refl _ _⟩
    case round =>
      obtain ⟨k, rfl, hk, rfl, hb⟩ := hrel
      obtain ⟨x0, x1, x2, x3, x4⟩ := box_at hb
      have hle := countL_le kids k
      by_cases hlt : k < kids.length
      · obtain ⟨b, off, v0, v1, v2, v3, v4, rfl, g0, g1, g2, g3, g4, hrk⟩ := KidsIn.at kids 0 k hlt (KidsIn.mono (Same.of_box hb) _ _ _ hkids)
        simp only [Nat.zero_add] at g0 g1 g2 g3 g4
        have hsz := kid_size hN hlt
        have hn := countL_take kids k hlt
        have hle2 := countL_le kids (k + 1)
        have hkc : countT kids[k] ≤ 1000000 := by omega
        have hsum : ((1 + countL (kids.take k) : Nat) : Int) + (countT kids[k] : Int) ≤ 1000000 := by omega
        have hv : Hid (((1 + countL (kids.take k) : Nat) : Int) + (countT kids[k] : Int) = ((1 + countL (kids.take (k + 1)) : Nat) : Int)) := Lib.hid (by omega)
        clear hn hle2
        go_wp2_with (go_at_call 38; refine (ih _ _ _ hsz hrk hkc).mono ?_; rintro e w1 ⟨rfl, hb1⟩)
        go_roundw
        case rel => exact ⟨k + 1, by go_num, by omega, by rw [← hv.out]; simp, box_next hb hb1⟩
        case measure => simp [intOf]; omega
      · go_wp2_with fail
        go_ret
        refine ⟨?_, box_out hb⟩
        rw [countT, take_end _ _ hk hlt]; rfl

theorem counted_any (t : T) (v : Value) (w : World) (hr : Rep w t v) (hc : countT t ≤ 1000000) :
    Calls Tryd.prog 38 #[v] w fun e w' => e = .returned (.int .i64 (countT t)) ∧ Below w.heap.size w w' := counted_all _ t v w (Nat.le_refl _) hr hc

set_option maxHeartbeats 1000000 in
theorem deep_all (N : Nat) : ∀ (t : T) (v : Value) (w : World), SizeOf.sizeOf t ≤ N → Rep w t v → deepT t ≤ 1000000 →
    Calls Tryd.prog 40 #[v] w fun e w' => e = .returned (.int .i64 (deepT t)) ∧ Below w.heap.size w w' := by
  induction N with
  | zero => intro t; cases t; intro _ _ h; simp at h
  | succ N ih =>
    rintro ⟨kd, n, s, keys, kids⟩ v w hN hr hc
    obtain ⟨ka, va, kc, vc, rfl, _, _, hs, hkl, hvl, _, hkids⟩ := rep_mk hr
    rw [deepT] at hc
    go_enter Tryd.func40, Tryd.ntmps40
    go_wp2_with fail
    go_loopw [3, 4] (fun l i wr => ∃ (k : Nat), i = .int .i64 k ∧ k ≤ kids.length ∧ l = .int .i64 (deepL (kids.take k) : Nat) ∧ Below (w.heap.size + 1) (w.alloc (.cells #[.int .i64 kd, .int .i64 n, .string s, .slice ka keys.length kc, .slice va kids.length vc] 25)) wr) (fun _ i _ => kids.length - (intOf i).toNat)
    case atStart => exact ⟨0, rfl, Nat.zero_le _, by simp [deepL], Below.refl _ _⟩
    case round =>
      obtain ⟨k, rfl, hk, rfl, hb⟩ := hrel
      obtain ⟨x0, x1, x2, x3, x4⟩ := box_at hb
      have hle := deepL_le kids k
      by_cases hlt : k < kids.length
      · obtain ⟨b, off, v0, v1, v2, v3, v4, rfl, g0, g1, g2, g3, g4, hrk⟩ := KidsIn.at kids 0 k hlt (KidsIn.mono (Same.of_box hb) _ _ _ hkids)
        simp only [Nat.zero_add] at g0 g1 g2 g3 g4
        have hsz := kid_size hN hlt
        have hn := deepL_take kids k hlt
        have hle2 := deepL_le kids (k + 1)
        have hkc : deepT kids[k] ≤ 1000000 := by omega
        have Hn := Lib.hid hn
        clear hn hle2
        go_wp2_with (go_at_call 40; refine (ih _ _ _ hsz hrk hkc).mono ?_; rintro e w1 ⟨rfl, hb1⟩)
        go_roundw
        case rel => exact ⟨k + 1, by go_num, by omega, by rw [Hn.out]; congr 1; split <;> omega, box_next hb hb1⟩
        case measure => simp [intOf]; omega
      · go_wp2_with fail
        go_ret
        refine ⟨?_, box_out hb⟩
        rw [deepT, take_end _ _ hk hlt]; rfl

theorem deep_any (t : T) (v : Value) (w : World) (hr : Rep w t v) (hc : deepT t ≤ 1000000) :
    Calls Tryd.prog 40 #[v] w fun e w' => e = .returned (.int .i64 (deepT t)) ∧ Below w.heap.size w w' := deep_all _ t v w (Nat.le_refl _) hr hc
end Go.Proofs.YtfbeeaibejggdaaDoor
namespace Go.Proofs.YtfbeeaibejggdaaDoor
open Go.RowKit

theorem Tryd.info5 : (Tryd.prog.info? 5).map (fun i => (i.zero, i.size, i.bytes)) = some (some (.int .u8 0), 1, 1) := by kernel_rfl

/-- The lesser bytes of a number, the least first. -/
def digs (n : Int) (k : Nat) : List Int := (List.range k).map fun j => n / 256 ^ j % 256
theorem digs_succ (n : Int) (k : Nat) : digs n (k + 1) = digs n k ++ [n / 256 ^ k % 256] := by
  unfold digs; rw [List.range_succ, List.map_append]; rfl
theorem digs_len (n : Int) (k : Nat) : (digs n k).length = k := by simp [digs]
theorem div_next (n : Int) (k : Nat) : n / 256 ^ k / 256 = n / 256 ^ (k + 1) := by
  rw [Int.ediv_ediv_of_nonneg (Int.pow_nonneg (by omega)), Int.pow_succ]

theorem own_conv {w : World} {B g k cap : Nat} {xs : List Int} (h : w.ownsRow B 5 1 (.slice (some ⟨g, 0, none⟩) k cap) k (xs.map (Value.int .u8))) (hk : xs.length = k) :
    (convert 52 9 (.slice (some ⟨g, 0, none⟩) k cap)).run Tryd.prog w = .ok (.string (strOfNums xs)) w :=
  run_convert_bytes_arg (P := Tryd.prog) w 52 5 Tryd.underlying52 Tryd.underlying5 g 0 k cap xs hk (fun i hi => by
    rw [Nat.zero_add, h.cellAt i (by omega)]
    simp [List.getElem?_eq_getElem (show i < xs.length by omega), List.getD]) 9 Tryd.underlying9

theorem own_shape {w : World} {B e n : Nat} {v : Value} {xs : List Value} (h : w.ownsRow B e 1 v n xs) (hn : 0 < n) : ∃ g cap, v = .slice (some ⟨g, 0, none⟩) n cap ∧ n ≤ cap ∧ cap ≤ maxLen := by
  rcases h.2 with ⟨_, h0⟩ | ⟨g, cap, cur, hv, _, _, h1, h2, _⟩
  · omega
  · exact ⟨g, cap, hv, h1, h2⟩

set_option maxHeartbeats 1000000 in
theorem little_any (n : Int) (bytes : Nat) (w : World) (h0 : 0 ≤ n) (h1 : n < 18446744073709551616) (hb0 : 0 < bytes) (hb1 : bytes ≤ 8) :
    Calls Tryd.prog 61 #[.int .u64 n, .int .i64 bytes] w fun e w' => e = .returned (.string (strOfNums (digs n bytes))) ∧ Below w.heap.size w w' := by
  obtain ⟨i0, hi, hz0, hz1, hz2⟩ := info_parts Tryd.info5
  go_enter Tryd.func61, Tryd.ntmps61
  go_wp2_with fail
  go_loopw [0, 5, 6] (fun x v i wr => ∃ k : Nat, k ≤ bytes ∧ i = .int .i64 k ∧ x = .int .u64 (n / 256 ^ k) ∧ wr.ownsRow w.heap.size 5 1 v k ((digs n k).map (Value.int .u8)) ∧ Below w.heap.size w wr) (fun _ _ i _ => bytes - (intOf i).toNat)
  case atStart => exact ⟨0, Nat.zero_le _, rfl, by simp, World.ownsRow_nil _ _ _ _, Below.refl _ _⟩
  case round =>
    obtain ⟨k, hk, rfl, rfl, hown, hb⟩ := hrel
    by_cases hlt : k < bytes
    · obtain ⟨x, hx⟩ : ∃ x, n / 256 ^ k = x := ⟨_, rfl⟩
      have hx0 : 0 ≤ x := by rw [← hx]; exact Int.ediv_nonneg h0 (Int.pow_nonneg (by omega))
      have hx1 : x < 18446744073709551616 := by
        have : n / 256 ^ k ≤ n := Int.ediv_le_self _ h0
        omega
      have hm0 : 0 ≤ x % 256 := by omega
      have hm1 : x % 256 < 256 := by omega
      rw [hx]
      have Hx := Lib.hid hx
      clear hx
      go_wp2_with (at_builtin; refine wpList_append_own _ rfl _ _ 52 rfl w.heap.size 5 i0 (.int .u8 0) 1 1 Tryd.underlying52 hi hz0 hz1 hz2 rfl (by decide) _ _ _ rfl (hown.alloc _) ⟨wr.heap.size, 0, none⟩ 1 1 [.int .u8 (x % 256)] rfl rfl ?c1 ?c2 ?c3 ?c4 ?c5 ?_)
      case c1 =>
        intro j u hj
        match j, hj with
        | 0, hj => simp at hj; subst hj; simp [Addr.add]
      case c2 => intro u hu; simp at hu; subst hu; rfl
      case c3 => unfold maxLen; omega
      case c4 => omega
      case c5 => have := hb.size; simp; omega
      intro v' w1 hown' hgrow _
      have hb' : Below w.heap.size w w1 := (hb.alloc hb.size _).grown hgrow (by have := hb.size; simp; omega) (fun q hq => (hown.lt q hq).1)
      have Hown := Lib.hid hown'
      clear hown' hgrow hown hb
      go_wp2_with fail
      go_roundw
      case rel =>
        refine ⟨k + 1, by omega, by go_num, ?_, ?_, hb'⟩
        · rw [← div_next, Hx.out]
        · rw [digs_succ, Hx.out, List.map_append]; exact Hown.out
      case measure => simp [intOf]; omega
    · obtain rfl : k = bytes := by omega
      obtain ⟨g, cap, rfl, _, _⟩ := own_shape hown hb0
      have hcv := own_conv hown (digs_len n k)
      clear hown
      go_wp2_with fail
      go_ret
      exact ⟨rfl, hb⟩
end Go.Proofs.YtfbeeaibejggdaaDoor
namespace Go.Proofs.YtfbeeaibejggdaaDoor
open Go.RowKit

def numS (n : Int) (k : Nat) : ByteArray := strOfNums (digs (IntKind.u64.wrap n) k)
def zero4 : ByteArray := ⟨#[0, 0, 0, 0]⟩
def startS (kd n : Int) (s : ByteArray) : ByteArray :=
  if kd == 2 then numS n 4 else if kd == 3 then numS n 8 else if kd == 4 then s else if kd == 5 then s else if kd == 8 then numS n 4 ++ zero4 else if kd == 9 then numS n 4 ++ zero4 else ⟨#[]⟩
def zeros (j : Nat) : ByteArray := ⟨Array.replicate j 0⟩
def padS (x : ByteArray) : ByteArray := x ++ zeros ((8 - x.size % 8) % 8)
def closeS (kd : Int) (b : ByteArray) : ByteArray := padS (numS b.size 4 ++ numS kd 4 ++ b)
def keyS (kd : Int) (b : ByteArray) (key : Int) : ByteArray := if kd == 8 || kd == 10 then b ++ (numS key 4 ++ zero4) else b
mutual
def writtenT : T → ByteArray
  | .mk kd n s keys kids => closeS kd (bodyL kd (startS kd n s) keys kids)
def bodyL (kd : Int) (b : ByteArray) (keys : List Int) : List T → ByteArray
  | [] => b
  | t :: r => bodyL kd (keyS kd b (keys.headD 0) ++ writtenT t) keys.tail r
end
theorem bodyL_snoc (kd : Int) (t : T) : ∀ (xs : List T) (b : ByteArray) (keys : List Int), bodyL kd b keys (xs ++ [t]) = keyS kd (bodyL kd b keys xs) (keys.getD xs.length 0) ++ writtenT t
  | [], b, keys => by simp only [List.nil_append, bodyL, List.length_nil]; cases keys <;> rfl
  | x :: r, b, keys => by
    simp only [List.cons_append, bodyL]
    rw [bodyL_snoc kd t r]
    cases keys <;> simp

theorem u64_lo (n : Int) : 0 ≤ IntKind.u64.wrap n := by unfold IntKind.wrap; simp [IntKind.bits, IntKind.signed]; omega
theorem u64_hi (n : Int) : IntKind.u64.wrap n < 18446744073709551616 := by unfold IntKind.wrap; simp [IntKind.bits, IntKind.signed]; omega
theorem little4 (n : Int) (w : World) : Calls Tryd.prog 61 #[.int .u64 (IntKind.u64.wrap n), .int .i64 4] w fun e w' => e = .returned (.string (numS n 4)) ∧ Below w.heap.size w w' :=
  little_any (IntKind.u64.wrap n) 4 w (u64_lo n) (u64_hi n) (by omega) (by omega)
theorem little8 (n : Int) (w : World) : Calls Tryd.prog 61 #[.int .u64 (IntKind.u64.wrap n), .int .i64 8] w fun e w' => e = .returned (.string (numS n 8)) ∧ Below w.heap.size w w' :=
  little_any (IntKind.u64.wrap n) 8 w (u64_lo n) (u64_hi n) (by omega) (by omega)

theorem numS_size (n : Int) (k : Nat) : (numS n k).size = k := by
  unfold numS; show (strOfNums _).data.size = k
  simp [strOfNums, digs]
theorem app_size (a b : ByteArray) : (a ++ b).size = a.size + b.size := ByteArray.size_append
theorem zero4_size : zero4.size = 4 := rfl
theorem zeros_size (j : Nat) : (zeros j).size = j := by show (Array.replicate j (0 : UInt8)).size = j; simp

mutual
def costT : T → Nat
  | .mk _ _ s keys kids => 1 + keys.length + s.size / 64 + costL kids
def costL : List T → Nat
  | [] => 0
  | t :: r => costT t + costL r
end
theorem costL_append : ∀ (a b : List T), costL (a ++ b) = costL a + costL b
  | [], b => by simp [costL]
  | t :: r, b => by simp only [List.cons_append, costL]; rw [costL_append r b]; omega
theorem costL_take (l : List T) (k : Nat) (h : k < l.length) : costL (l.take (k + 1)) = costL (l.take k) + costT l[k] := by rw [take_next l k h, costL_append]; simp [costL]
theorem costL_le (l : List T) (k : Nat) : costL (l.take k) ≤ costL l := by
  have := costL_append (l.take k) (l.drop k)
  rw [List.take_append_drop] at this; omega

mutual
theorem weight_cost : ∀ (t : T) (l : Int), 0 < weightT t l → weightT t l = l - costT t
  | .mk kd n s keys kids, l, h => by
    rw [weightT] at h ⊢
    rw [weightL_cost kids _ h, costT]
    omega
theorem weightL_cost : ∀ (xs : List T) (l : Int), 0 < weightL xs l → weightL xs l = l - costL xs
  | [], l, _ => by simp [weightL, costL]
  | t :: r, l, h => by
    rw [weightL] at h ⊢
    have h2 := weightL_cost r _ h
    rw [h2, costL]
    by_cases hl : 0 < l
    · rw [if_pos hl] at h ⊢
      have h3 := weightL_le' r (weightT t l)
      rw [weight_cost t l (by omega)]
      omega
    · rw [if_neg hl] at h ⊢
      have h3 := weightL_le' r l
      omega
end

theorem startS_size (kd n : Int) (s : ByteArray) : (startS kd n s).size ≤ 8 + s.size := by
  unfold startS
  repeat' split
  all_goals try simp only [numS_size, app_size, zero4_size]
  all_goals first | omega | (show (0 : Nat) ≤ _; omega)
theorem keyS_size (kd : Int) (b : ByteArray) (key : Int) : (keyS kd b key).size ≤ b.size + 8 := by
  unfold keyS
  split <;> (try simp only [numS_size, app_size, zero4_size]) <;> omega
theorem padS_size (x : ByteArray) : (padS x).size ≤ x.size + 7 := by
  unfold padS; rw [app_size, zeros_size]; omega
theorem closeS_size (kd : Int) (b : ByteArray) : (closeS kd b).size ≤ b.size + 15 := by
  unfold closeS
  have := padS_size (numS b.size 4 ++ numS kd 4 ++ b)
  simp only [numS_size, app_size] at this
  omega
mutual
theorem written_size : ∀ (t : T), (writtenT t).size + 8 ≤ 96 * costT t
  | .mk kd n s keys kids => by
    rw [writtenT, costT]
    have h1 := closeS_size kd (bodyL kd (startS kd n s) keys kids)
    have h2 := body_size kd kids (startS kd n s) keys
    have h3 := startS_size kd n s
    omega
theorem body_size (kd : Int) : ∀ (l : List T) (b : ByteArray) (keys : List Int), (bodyL kd b keys l).size ≤ b.size + 96 * costL l
  | [], b, keys => by simp [bodyL, costL]
  | t :: r, b, keys => by
    rw [bodyL, costL]
    have h1 := body_size kd r (keyS kd b (keys.headD 0) ++ writtenT t) keys.tail
    have h2 := written_size t
    have h3 := keyS_size kd b (keys.headD 0)
    rw [app_size] at h1
    omega
end

end Go.Proofs.YtfbeeaibejggdaaDoor
