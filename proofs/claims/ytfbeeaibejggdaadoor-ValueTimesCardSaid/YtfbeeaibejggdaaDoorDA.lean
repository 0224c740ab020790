import Derived.Test.YtfbeeaibejggdaaDoorCA
namespace Go.Proofs.YtfbeeaibejggdaaDoor
open Go.RowKit

/-! ### Both sides' validity is one. -/

theorem shapedL_all : ∀ (l : List T), shapedL l = l.all shapedB
  | [] => by simp [shapedL]
  | t :: r => by rw [shapedL, shapedL_all r]; simp

theorem bare_kids_nil {t : T} {a b c : Bool} (h : bareB t a b c false = true) : t.kids = [] := bareB_kids h

theorem shaped_three {t : T} (h : shapedB t = true) (hk : t.kind = 3) : bareB t true false false false = true := by
  obtain ⟨kd, n, s, keys, kids⟩ := t
  simp only [T.kind] at hk
  subst hk
  exact h

theorem numbers_choice (how : Int) (l : List T) (h : ∀ x ∈ l, shapedB x = true) : numbersB how l = choiceB how l := by
  have : l.all intOk = l.all fun t => decide (t.kind = 3) := by
    rw [Bool.eq_iff_iff, List.all_eq_true, List.all_eq_true]
    constructor
    · intro hh x hx
      have := hh x hx
      unfold intOk at this
      simp only [Bool.and_eq_true] at this
      exact this.1
    · intro hh x hx
      have h1 := hh x hx
      have h2 := shaped_three (h x hx) (by simpa using h1)
      unfold intOk
      rw [h1, h2]; rfl
  unfold numbersB choiceB
  rw [this]

theorem shaped_node (t : T) : shapedB t = (soundB t && shapedL t.kids) := by
  obtain ⟨kd, n, s, keys, kids⟩ := t
  by_cases hr : 1 ≤ kd ∧ kd ≤ 10
  · have hcases : kd = 1 ∨ kd = 2 ∨ kd = 3 ∨ kd = 4 ∨ kd = 5 ∨ kd = 6 ∨ kd = 7 ∨ kd = 8 ∨ kd = 9 ∨ kd = 10 := by omega
    have hleaf : ∀ b e : Bool, (b = true → kids = []) → (b && e) = ((true && true && b && e) && shapedL kids) := fun b e h => by
      cases b with
      | false => simp
      | true => rw [h rfl]; simp [shapedL]
    rcases hcases with rfl | rfl | rfl | rfl | rfl | rfl | rfl | rfl | rfl | rfl
    · have := hleaf (bareB (.mk 1 n s keys kids) false false false false) true (fun h => bareB_kids h)
      rw [Bool.and_true] at this; exact this
    · exact hleaf (bareB (.mk 2 n s keys kids) true false false false) (decide (n = 0) || decide (n = 1)) (fun h => bareB_kids h)
    · have := hleaf (bareB (.mk 3 n s keys kids) true false false false) true (fun h => bareB_kids h)
      rw [Bool.and_true] at this; exact this
    · exact hleaf (bareB (.mk 4 n s keys kids) false true false false) (noZero s) (fun h => bareB_kids h)
    · have := hleaf (bareB (.mk 5 n s keys kids) false true false false) true (fun h => bareB_kids h)
      rw [Bool.and_true] at this; exact this
    · show (decide ((6 : Int) ≤ 6) && decide ((6 : Int) ≤ 10) && shapedL kids && (listOk kids && bareB (.mk 6 n s keys kids) false false false true)) = ((true && true && bareB (.mk 6 n s keys kids) false false false true && listOk kids) && shapedL kids)
      cases bareB (.mk 6 n s keys kids) false false false true <;> cases listOk kids <;> cases shapedL kids <;> rfl
    · show (decide ((6 : Int) ≤ 7) && decide ((7 : Int) ≤ 10) && shapedL kids && bareB (.mk 7 n s keys kids) false false false true) = ((true && true && bareB (.mk 7 n s keys kids) false false false true && true) && shapedL kids)
      cases bareB (.mk 7 n s keys kids) false false false true <;> cases shapedL kids <;> rfl
    · show (decide ((6 : Int) ≤ 8) && decide ((8 : Int) ≤ 10) && shapedL kids && (bareB (.mk 8 n s keys kids) true false true true && decide (0 ≤ n) && decide (n ≤ 2147483647) && keys.length == kids.length && keysB keys 2147483647 true)) = ((true && true && bareB (.mk 8 n s keys kids) true false true true && (decide (0 ≤ n) && decide (n ≤ 2147483647) && keys.length == kids.length && keysB keys 2147483647 true)) && shapedL kids)
      cases bareB (.mk 8 n s keys kids) true false true true <;> cases shapedL kids <;> simp
    · show (decide ((6 : Int) ≤ 9) && decide ((9 : Int) ≤ 10) && shapedL kids && (bareB (.mk 9 n s keys kids) true false false true && numbersB n kids)) = ((true && true && bareB (.mk 9 n s keys kids) true false false true && choiceB n kids) && shapedL kids)
      cases hs : shapedL kids with
      | false => simp
      | true =>
        rw [shapedL_all, List.all_eq_true] at hs
        rw [numbers_choice n kids hs]; simp
    · show (decide ((6 : Int) ≤ 10) && decide ((10 : Int) ≤ 10) && shapedL kids && (noSeq kids && bareB (.mk 10 n s keys kids) false false true true && keys.length == kids.length && keysB keys 1000000000 false)) = ((true && true && bareB (.mk 10 n s keys kids) false false true true && (keys.length == kids.length && keysB keys 1000000000 false && noSeq kids)) && shapedL kids)
      cases bareB (.mk 10 n s keys kids) false false true true <;> cases shapedL kids <;> cases noSeq kids <;> simp
  · have h1 : soundB (.mk kd n s keys kids) = false := by
      show (decide (1 ≤ kd) && decide (kd ≤ 10) && flagsB (.mk kd n s keys kids) && extraB (.mk kd n s keys kids)) = false
      have : (decide (1 ≤ kd) && decide (kd ≤ 10)) = false := by
        cases h : (decide (1 ≤ kd) && decide (kd ≤ 10)) with
        | false => rfl
        | true => simp only [Bool.and_eq_true, decide_eq_true_eq] at h; exact absurd h hr
      rw [this]; simp
    rw [h1, Bool.false_and, shapedB]
    rw [if_neg (by omega), if_neg (by omega), if_neg (by omega), if_neg (by omega), if_neg (by omega)]
    have : (decide (6 ≤ kd) && decide (kd ≤ 10)) = false := by
      cases h : (decide (6 ≤ kd) && decide (kd ≤ 10)) with
      | false => rfl
      | true => simp only [Bool.and_eq_true, decide_eq_true_eq] at h; omega
    rw [this]; simp

mutual
theorem shaped_iff : ∀ (t : T) (lvl : Nat), shapedB t = true ↔ ∀ x ∈ preT t lvl, soundB x.1 = true
  | .mk kd n s keys kids, lvl => by
    rw [shaped_node, preT, Bool.and_eq_true]
    have := shapedL_iff kids (lvl + 1)
    simp only [T.kids, List.mem_cons, forall_eq_or_imp]
    rw [this]
theorem shapedL_iff : ∀ (l : List T) (lvl : Nat), shapedL l = true ↔ ∀ x ∈ preL l lvl, soundB x.1 = true
  | [], lvl => by simp [shapedL, preL]
  | t :: r, lvl => by
    rw [shapedL, preL, Bool.and_eq_true, shaped_iff t lvl, shapedL_iff r lvl]
    simp only [List.mem_append]
    constructor
    · rintro ⟨h1, h2⟩ x (hx | hx)
      · exact h1 x hx
      · exact h2 x hx
    · intro h; exact ⟨fun x hx => h x (.inl hx), fun x hx => h x (.inr hx)⟩
end

mutual
theorem level_le : ∀ (t : T) (lvl : Nat), ∀ x ∈ preT t lvl, x.2 + 1 ≤ lvl + deepT t
  | .mk kd n s keys kids, lvl, x, hx => by
    rw [preT] at hx
    rw [deepT]
    rcases List.mem_cons.1 hx with rfl | hx
    · show lvl + 1 ≤ lvl + (deepL kids + 1); omega
    · have := levelL_le kids (lvl + 1) x hx
      omega
theorem levelL_le : ∀ (l : List T) (lvl : Nat), ∀ x ∈ preL l lvl, x.2 + 1 ≤ lvl + deepL l
  | [], lvl, x, hx => by simp [preL] at hx
  | t :: r, lvl, x, hx => by
    rw [preL] at hx
    rw [deepL]
    rcases List.mem_append.1 hx with hx | hx
    · have := level_le t lvl x hx; omega
    · have := levelL_le r lvl x hx; omega
end
mutual
theorem level_at : ∀ (t : T) (lvl : Nat), ∃ x ∈ preT t lvl, x.2 + 1 = lvl + deepT t
  | .mk kd n s keys kids, lvl => by
    rw [preT, deepT]
    rcases levelL_at kids (lvl + 1) with h | ⟨x, hx, h⟩
    · exact ⟨_, List.mem_cons_self, by rw [h]⟩
    · exact ⟨x, List.mem_cons_of_mem _ hx, by omega⟩
theorem levelL_at : ∀ (l : List T) (lvl : Nat), deepL l = 0 ∨ ∃ x ∈ preL l lvl, x.2 + 1 = lvl + deepL l
  | [], lvl => by simp [deepL]
  | t :: r, lvl => by
    right
    obtain ⟨x, hx, h⟩ := level_at t lvl
    rw [preL, deepL]
    rcases levelL_at r lvl with h0 | ⟨y, hy, h'⟩
    · exact ⟨x, List.mem_append_left _ hx, by rw [h0]; omega⟩
    · by_cases hc : deepL r ≤ deepT t
      · exact ⟨x, List.mem_append_left _ hx, by omega⟩
      · exact ⟨y, List.mem_append_right _ hy, by omega⟩
end

theorem countL_len : ∀ (l : List T), l.length ≤ countL l
  | [] => by simp
  | t :: r => by
    rw [countL, List.length_cons]
    have := countL_len r
    have : 1 ≤ countT t := by obtain ⟨_, _, _, _, _⟩ := t; rw [countT]; omega
    omega
mutual
theorem kids_behind : ∀ (t : T) (lvl : Nat) (p r : List (T × Nat)) (x : T × Nat), preT t lvl = p ++ x :: r → x.1.kids.length ≤ r.length
  | .mk kd n s keys kids, lvl, p, r, x, h => by
    rw [preT] at h
    cases p with
    | nil =>
      simp only [List.nil_append, List.cons.injEq] at h
      obtain ⟨rfl, rfl⟩ := h
      rw [preL_len]; exact countL_len kids
    | cons y p =>
      simp only [List.cons_append, List.cons.injEq] at h
      exact kidsL_behind kids (lvl + 1) p r x h.2
theorem kidsL_behind : ∀ (l : List T) (lvl : Nat) (p r : List (T × Nat)) (x : T × Nat), preL l lvl = p ++ x :: r → x.1.kids.length ≤ r.length
  | [], lvl, p, r, x, h => by simp [preL] at h
  | t :: l, lvl, p, r, x, h => by
    rw [preL] at h
    rcases List.append_eq_append_iff.1 h with ⟨q, h1, h2⟩ | ⟨q, h1, h2⟩
    · exact kidsL_behind l lvl q r x h2
    · cases q with
      | nil =>
        simp only [List.nil_append] at h2
        exact kidsL_behind l lvl [] r x (by simpa using h2.symm)
      | cons y q =>
        simp only [List.cons_append, List.cons.injEq] at h2
        obtain ⟨rfl, rfl⟩ := h2
        have := kids_behind t lvl p q x h1
        rw [List.length_append]; omega
end

theorem padS_mod (x : ByteArray) : (padS x).size % 8 = 0 := by
  unfold padS; rw [app_size, zeros_size]; omega
theorem padS_eq (x : ByteArray) : (padS x).size = (x.size + 7) / 8 * 8 := by
  unfold padS; rw [app_size, zeros_size]; omega
theorem written_mod (t : T) : (writtenT t).size % 8 = 0 := by
  obtain ⟨kd, n, s, keys, kids⟩ := t
  rw [writtenT, closeS]; exact padS_mod _
theorem close_eq (kd : Int) (b : ByteArray) : (closeS kd b).size = (8 + b.size + 7) / 8 * 8 := by
  unfold closeS; rw [padS_eq]; simp only [app_size, numS_size]

theorem empty_size : (⟨#[]⟩ : ByteArray).size = 0 := rfl
def sizeL : List T → Nat
  | [] => 0
  | t :: r => (writtenT t).size + sizeL r
theorem sizeL_mod : ∀ l : List T, sizeL l % 8 = 0
  | [] => rfl
  | t :: r => by rw [sizeL]; have := written_mod t; have := sizeL_mod r; omega
theorem body_eq (kd : Int) : ∀ (l : List T) (b : ByteArray) (keys : List Int), (bodyL kd b keys l).size = b.size + sizeL l + (if kd == 8 || kd == 10 then 8 * l.length else 0)
  | [], b, keys => by simp [bodyL, sizeL]
  | t :: r, b, keys => by
    rw [bodyL, body_eq kd r, app_size, sizeL]
    unfold keyS
    split
    · simp only [app_size, numS_size, zero4_size, List.length_cons]; omega
    · simp; omega

mutual
theorem written_own : ∀ (t : T) (lvl : Nat), shapedB t = true → ((writtenT t).size : Int) = sumOwn (preT t lvl)
  | .mk kd n s keys kids, lvl, hs => by
    have hk := shaped_kids kd n s keys kids hs
    have hsl : shapedL kids = true := shapedL_yes kids hk.1
    have ih := writtenL_own kids (lvl + 1) hsl
    have hm := sizeL_mod kids
    have hnode := hs
    rw [shaped_node, Bool.and_eq_true] at hnode
    have hsd := hnode.1
    unfold soundB at hsd
    simp only [Bool.and_eq_true, decide_eq_true_eq] at hsd
    have hr : 1 ≤ kd ∧ kd ≤ 10 := hsd.1.1
    rw [preT, sumOwn, ← ih, writtenT, close_eq, body_eq]
    have hcases : kd = 1 ∨ kd = 2 ∨ kd = 3 ∨ kd = 4 ∨ kd = 5 ∨ kd = 6 ∨ kd = 7 ∨ kd = 8 ∨ kd = 9 ∨ kd = 10 := by omega
    have hnil : kd = 1 ∨ kd = 2 ∨ kd = 3 ∨ kd = 4 ∨ kd = 5 → sizeL kids = 0 := fun h => by
      have : kids = [] := by
        have hf := hsd.1.2
        unfold flagsB at hf
        rcases h with rfl | rfl | rfl | rfl | rfl <;> exact bareB_kids (t := .mk _ n s keys kids) hf
      rw [this]; rfl
    rcases hcases with rfl | rfl | rfl | rfl | rfl | rfl | rfl | rfl | rfl | rfl
    · have := hnil (by simp); rw [this]; simp [startS, ownT, T.kind, empty_size]
    · have := hnil (by simp); rw [this]; simp [startS, ownT, T.kind, numS_size]
    · have := hnil (by simp); rw [this]; simp [startS, ownT, T.kind, numS_size]
    · have := hnil (by simp); rw [this]; simp [startS, ownT, T.kind, T.s]; omega
    · have := hnil (by simp); rw [this]; simp [startS, ownT, T.kind, T.s]; omega
    · simp [startS, ownT, T.kind, empty_size]; omega
    · simp [startS, ownT, T.kind, empty_size]; omega
    · have hl := hk.2 rfl
      simp [startS, ownT, T.kind, T.keys, app_size, numS_size, zero4_size, hl]; omega
    · simp [startS, ownT, T.kind, app_size, numS_size, zero4_size]; omega
    · have hl := hk.2 rfl
      simp [startS, ownT, T.kind, T.keys, hl, empty_size]; omega
theorem writtenL_own : ∀ (l : List T) (lvl : Nat), shapedL l = true → ((sizeL l : Nat) : Int) = sumOwn (preL l lvl)
  | [], lvl, _ => by simp [sizeL, preL, sumOwn]
  | t :: r, lvl, hs => by
    rw [shapedL, Bool.and_eq_true] at hs
    rw [sizeL, preL, sumOwn_append, ← written_own t lvl hs.1, ← writtenL_own r lvl hs.2]
    omega
end
end Go.Proofs.YtfbeeaibejggdaaDoor
namespace Go.Proofs.YtfbeeaibejggdaaDoor
open Go.RowKit

theorem good_valid (t : T) : Good (preT t 1) ↔ validB t = true := by
  have hlen := preT_len t 1
  constructor
  · intro hg
    have hall : ∀ x ∈ preT t 1, x.2 ≤ 10 ∧ soundB x.1 = true := fun x hx => by
      obtain ⟨p, r, h⟩ := List.append_of_mem hx
      have := hg p x r h
      unfold goodStep at this
      simp only [Bool.and_eq_true, decide_eq_true_eq] at this
      exact ⟨by omega, this.1.1.2⟩
    have h1 : shapedB t = true := (shaped_iff t 1).2 fun x hx => (hall x hx).2
    have h2 : deepT t ≤ 10 := by
      obtain ⟨x, hx, h⟩ := level_at t 1
      have := (hall x hx).1
      omega
    have h3 : countT t ≤ 500 := by
      rcases List.eq_nil_or_concat (preT t 1) with h | ⟨p, x, h⟩
      · rw [h] at hlen; simp at hlen; omega
      · rw [List.concat_eq_append] at h
        have := hg p x [] h
        unfold goodStep at this
        simp only [Bool.and_eq_true, decide_eq_true_eq] at this
        rw [h, List.length_append] at hlen
        simp at hlen
        omega
    have h4 := good_sum hg
    rw [← written_own t 1 h1] at h4
    unfold validB
    rw [h1, decide_eq_true (by omega : (deepT t : Int) ≤ 10), decide_eq_true (by omega : (countT t : Int) ≤ 500), decide_eq_true h4]
    rfl
  · intro hv p x r h
    unfold validB at hv
    simp only [Bool.and_eq_true, decide_eq_true_eq] at hv
    obtain ⟨⟨⟨h1, h2⟩, h3⟩, h4⟩ := hv
    have hx : x ∈ preT t 1 := by rw [h]; simp
    have s1 := (shaped_iff t 1).1 h1 x hx
    have s2 := level_le t 1 x hx
    have s3 := kids_behind t 1 p r x h
    rw [written_own t 1 h1, h, sumOwn_append, sumOwn] at h4
    have s4 := sum_lo r
    rw [h, List.length_append, List.length_cons] at hlen
    unfold goodStep
    rw [s1, decide_eq_true (by omega : (x.2 : Int) ≤ 10), decide_eq_true (by omega : (p.length : Int) + 1 + x.1.kids.length ≤ 500), decide_eq_true (by omega : sumOwn p + ownT x.1 ≤ 65536)]
    rfl

/-- What measure answers. -/
def measureV (t : T) : Value := if validB t then .tuple #[.int .i64 (countT t), .int .i64 ((writtenT t).size : Nat), .bool true] else .tuple #[.int .i64 0, .int .i64 0, .bool false]

theorem measure_val (t : T) (v : Value) (w : World) (hr : Rep w t v) (hl : HasLaid w) (hc : costT t ≤ 3000) :
    Calls Tryd.prog 37 #[v] w fun e w' => e = .returned (measureV t) ∧ Below w.heap.size w w' := by
  refine (measure_any t v w hr hl hc).mono fun e w' => ?_
  rintro ⟨⟨hg, rfl⟩ | ⟨hg, rfl⟩, hb⟩
  · have hv := (good_valid t).1 hg
    refine ⟨?_, hb⟩
    have h1 : shapedB t = true := by unfold validB at hv; simp only [Bool.and_eq_true] at hv; exact hv.1.1.1
    rw [measureV, if_pos hv, written_own t 1 h1]
  · have hv : ¬ validB t = true := fun h => hg ((good_valid t).2 h)
    exact ⟨by rw [measureV, if_neg hv], hb⟩

set_option maxHeartbeats 1000000 in
theorem valid_any (t : T) (v : Value) (w : World) (hr : Rep w t v) (hl : HasLaid w) (hc : costT t ≤ 3000) :
    Calls Tryd.prog 16 #[v] w fun e w' => e = .returned (.bool (validB t)) ∧ Below w.heap.size w w' := by
  obtain ⟨ka, va, kc, vc, rfl, _, _, _, _, _, _, _⟩ := rep_agg hr
  have hm := measure_val t _ _ (Rep.mono (same_alloc w (.cells #[.int .i64 t.kind, .int .i64 t.n, .string t.s, .slice ka t.keys.length kc, .slice va t.kids.length vc] 25)) _ _ hr) (hl.mono (same_alloc w _)) hc
  cases hv : validB t with
  | true =>
    rw [measureV, if_pos hv] at hm
    clear hv
    go_enter Tryd.func16, Tryd.ntmps16
    go_wp2_with (go_at_call 37; refine hm.mono ?_; rintro e w1 ⟨rfl, hb1⟩)
    go_ret
    exact ⟨rfl, box_out (box_first hb1)⟩
  | false =>
    rw [measureV, if_neg (by rw [hv]; simp)] at hm
    clear hv
    go_enter Tryd.func16, Tryd.ntmps16
    go_wp2_with (go_at_call 37; refine hm.mono ?_; rintro e w1 ⟨rfl, hb1⟩)
    go_ret
    exact ⟨rfl, box_out (box_first hb1)⟩
end Go.Proofs.YtfbeeaibejggdaaDoor
