import Derived.Test.YtfbeeaibejggdaaDoorB6
namespace Go.Proofs.YtfbeeaibejggdaaDoor
open Go.RowKit

def flagsB (t : T) : Bool := bareB t (hasRow t.kind.toNat).1 (hasRow t.kind.toNat).2.1 (hasRow t.kind.toNat).2.2.1 (hasRow t.kind.toNat).2.2.2
def extraB (t : T) : Bool :=
  if t.kind = 2 then decide (t.n = 0) || decide (t.n = 1) else if t.kind = 4 then noZero t.s else if t.kind = 6 then listOk t.kids else if t.kind = 8 then objectB t
  else if t.kind = 9 then choiceB t.n t.kids else if t.kind = 10 then sequenceB t else true
def soundB (t : T) : Bool := decide (1 ≤ t.kind) && decide (t.kind ≤ 10) && flagsB t && extraB t

theorem noZero_index (s : ByteArray) : decide (Lib.indexByte s.data.toList 0 < 0) = noZero s := by
  have hge := Lib.indexByte_ge s.data.toList 0
  by_cases h : Lib.indexByte s.data.toList 0 < 0
  · have h1 : Lib.indexByte s.data.toList 0 = -1 := by omega
    have h2 := Lib.indexByte_none h1
    rw [decide_eq_true h]
    refine (all_yes fun j hj => ?_).symm
    have h3 := h2 j
    have hj' : j < s.data.size := hj
    rw [Array.getElem?_toList, Array.getElem?_eq_getElem hj'] at h3
    have h4 : s.data.getD j 0 = s.data[j] := by rw [str_at hj]; rfl
    rw [h4]
    simp only [Bool.not_eq_true', beq_eq_false_iff_ne]
    intro h5
    exact h3 (congrArg some (UInt8.toNat_inj.1 (by simpa using h5)))
  · rw [decide_eq_false h]
    have h1 : Lib.indexByte s.data.toList 0 = ((Lib.indexByte s.data.toList 0).toNat : Int) := by omega
    have h2 := (Lib.indexByte_some h1).1
    have hlt : (Lib.indexByte s.data.toList 0).toNat < s.data.toList.length := by
      rcases Nat.lt_or_ge (Lib.indexByte s.data.toList 0).toNat s.data.toList.length with h | h
      · exact h
      · rw [List.getElem?_eq_none h] at h2; cases h2
    have hlt' : (Lib.indexByte s.data.toList 0).toNat < s.size := by simpa using hlt
    refine (all_no hlt' ?_).symm
    rw [List.getElem?_eq_getElem hlt] at h2
    have h4 : s.data.getD (Lib.indexByte s.data.toList 0).toNat 0 = s.data[(Lib.indexByte s.data.toList 0).toNat]'hlt' := by rw [str_at hlt']; rfl
    have h5 : s.data[(Lib.indexByte s.data.toList 0).toNat]'hlt' = 0 := by
      have := Option.some.inj h2
      simpa using this
    rw [h4, h5]; rfl

theorem kind_nat {k : Int} (h1 : 1 ≤ k) (h2 : k ≤ 10) : ∃ m : Nat, k = m ∧ 1 ≤ m ∧ m ≤ 10 := ⟨k.toNat, by omega, by omega, by omega⟩

set_option maxHeartbeats 1000000 in
theorem sound_out (t : T) (v : Value) (w : World) (hr : Rep w t v) (h : (decide (1 ≤ t.kind) && decide (t.kind ≤ 10)) = false) :
    Calls Tryd.prog 63 #[v] w fun e w' => e = .returned (.bool false) ∧ Below w.heap.size w w' := by
  have hk := kindThere_any t.kind
  rw [h] at hk
  obtain ⟨kd, n, s, keys, kids⟩ := t
  obtain ⟨ka, va, kc, vc, rfl, _⟩ := rep_mk hr
  simp only [T.kind] at hk
  clear h
  go_enter Tryd.func63, Tryd.ntmps63
  go_wp2_with (go_at_call 72; refine (hk _).mono ?_; rintro e w1 ⟨rfl, rfl⟩)
  go_ret
  exact ⟨rfl, (Below.refl _ _).alloc (Nat.le_refl _) _⟩

theorem hasMore_laid (t : T) (v : Value) (w : World) (hr : Rep w t v) (hl : HasLaid w) (h : (decide (1 ≤ t.kind) && decide (t.kind ≤ 10)) = true) :
    Calls Tryd.prog 90 #[v] w fun e w' => e = .returned (.bool (!flagsB t)) ∧ Below w.heap.size w w' := by
  simp only [Bool.and_eq_true, decide_eq_true_eq] at h
  obtain ⟨c0, c1, c2, c3⟩ := hl t.kind.toNat (by omega)
  exact hasMore_any t v w hr t.kind.toNat (by omega) (by omega) _ _ _ _ c0 c1 c2 c3

set_option maxHeartbeats 1000000 in
theorem sound_bare (t : T) (v : Value) (w : World) (hr : Rep w t v) (hl : HasLaid w) (h : (decide (1 ≤ t.kind) && decide (t.kind ≤ 10)) = true) (hf : flagsB t = false) :
    Calls Tryd.prog 63 #[v] w fun e w' => e = .returned (.bool false) ∧ Below w.heap.size w w' := by
  have hk := kindThere_any t.kind
  rw [h] at hk
  have hm := hasMore_laid t v
  obtain ⟨kd, n, s, keys, kids⟩ := t
  obtain ⟨ka, va, kc, vc, rfl, _⟩ := rep_mk hr
  have hm1 := hm _ (Rep.mono (same_alloc w (.cells #[.int .i64 kd, .int .i64 n, .string s, .slice ka keys.length kc, .slice va kids.length vc] 25)) _ _ hr) (hl.mono (same_alloc w _)) h
  rw [hf] at hm1
  simp only [T.kind] at hk
  clear h hm hf
  go_enter Tryd.func63, Tryd.ntmps63
  go_wp2_with (first | (go_at_call 72; refine (hk _).mono ?_; rintro e w1 ⟨rfl, rfl⟩) | (go_at_call 90; refine hm1.mono ?_; rintro e w1 ⟨rfl, hb1⟩))
  go_ret
  exact ⟨rfl, box_out (box_first hb1)⟩

set_option maxHeartbeats 1000000 in
theorem sound_1 (n : Int) (s : ByteArray) (keys : List Int) (kids : List T) (v : Value) (w : World) (hr : Rep w (.mk 1 n s keys kids) v) (hl : HasLaid w) (hf : flagsB (.mk 1 n s keys kids) = true) :
    Calls Tryd.prog 63 #[v] w fun e w' => e = .returned (.bool (extraB (.mk 1 n s keys kids))) ∧ Below w.heap.size w w' := by
  have hk := kindThere_any 1
  rw [show (decide ((1 : Int) ≤ 1) && decide ((1 : Int) ≤ 10)) = true from rfl] at hk
  have hm := hasMore_laid (.mk 1 n s keys kids) v
  obtain ⟨ka, va, kc, vc, rfl, _, _, hs, hkl, hvl, hkeys, hkids⟩ := rep_mk hr
  have hm1 := hm _ (Rep.mono (same_alloc w (.cells #[.int .i64 1, .int .i64 n, .string s, .slice ka keys.length kc, .slice va kids.length vc] 25)) _ _ hr) (hl.mono (same_alloc w _)) rfl
  rw [hf] at hm1
  clear hm hf
  go_enter Tryd.func63, Tryd.ntmps63
  go_wp2_with (first | (go_at_call 72; refine (hk _).mono ?_; rintro e w1 ⟨rfl, rfl⟩) | (go_at_call 90; refine hm1.mono ?_; rintro e w1 ⟨rfl, hb1⟩; have hb2 := box_first hb1; obtain ⟨x0, x1, x2, x3, x4⟩ := box_at hb2))
  go_ret
  exact ⟨ret_bool rfl, box_out hb2⟩

set_option maxHeartbeats 1000000 in
theorem sound_3 (n : Int) (s : ByteArray) (keys : List Int) (kids : List T) (v : Value) (w : World) (hr : Rep w (.mk 3 n s keys kids) v) (hl : HasLaid w) (hf : flagsB (.mk 3 n s keys kids) = true) :
    Calls Tryd.prog 63 #[v] w fun e w' => e = .returned (.bool (extraB (.mk 3 n s keys kids))) ∧ Below w.heap.size w w' := by
  have hk := kindThere_any 3
  rw [show (decide ((1 : Int) ≤ 3) && decide ((3 : Int) ≤ 10)) = true from rfl] at hk
  have hm := hasMore_laid (.mk 3 n s keys kids) v
  obtain ⟨ka, va, kc, vc, rfl, _, _, hs, hkl, hvl, hkeys, hkids⟩ := rep_mk hr
  have hm1 := hm _ (Rep.mono (same_alloc w (.cells #[.int .i64 3, .int .i64 n, .string s, .slice ka keys.length kc, .slice va kids.length vc] 25)) _ _ hr) (hl.mono (same_alloc w _)) rfl
  rw [hf] at hm1
  clear hm hf
  go_enter Tryd.func63, Tryd.ntmps63
  go_wp2_with (first | (go_at_call 72; refine (hk _).mono ?_; rintro e w1 ⟨rfl, rfl⟩) | (go_at_call 90; refine hm1.mono ?_; rintro e w1 ⟨rfl, hb1⟩; have hb2 := box_first hb1; obtain ⟨x0, x1, x2, x3, x4⟩ := box_at hb2))
  go_ret
  exact ⟨ret_bool rfl, box_out hb2⟩

set_option maxHeartbeats 1000000 in
theorem sound_5 (n : Int) (s : ByteArray) (keys : List Int) (kids : List T) (v : Value) (w : World) (hr : Rep w (.mk 5 n s keys kids) v) (hl : HasLaid w) (hf : flagsB (.mk 5 n s keys kids) = true) :
    Calls Tryd.prog 63 #[v] w fun e w' => e = .returned (.bool (extraB (.mk 5 n s keys kids))) ∧ Below w.heap.size w w' := by
  have hk := kindThere_any 5
  rw [show (decide ((1 : Int) ≤ 5) && decide ((5 : Int) ≤ 10)) = true from rfl] at hk
  have hm := hasMore_laid (.mk 5 n s keys kids) v
  obtain ⟨ka, va, kc, vc, rfl, _, _, hs, hkl, hvl, hkeys, hkids⟩ := rep_mk hr
  have hm1 := hm _ (Rep.mono (same_alloc w (.cells #[.int .i64 5, .int .i64 n, .string s, .slice ka keys.length kc, .slice va kids.length vc] 25)) _ _ hr) (hl.mono (same_alloc w _)) rfl
  rw [hf] at hm1
  clear hm hf
  go_enter Tryd.func63, Tryd.ntmps63
  go_wp2_with (first | (go_at_call 72; refine (hk _).mono ?_; rintro e w1 ⟨rfl, rfl⟩) | (go_at_call 90; refine hm1.mono ?_; rintro e w1 ⟨rfl, hb1⟩; have hb2 := box_first hb1; obtain ⟨x0, x1, x2, x3, x4⟩ := box_at hb2))
  go_ret
  exact ⟨ret_bool rfl, box_out hb2⟩

set_option maxHeartbeats 1000000 in
theorem sound_7 (n : Int) (s : ByteArray) (keys : List Int) (kids : List T) (v : Value) (w : World) (hr : Rep w (.mk 7 n s keys kids) v) (hl : HasLaid w) (hf : flagsB (.mk 7 n s keys kids) = true) :
    Calls Tryd.prog 63 #[v] w fun e w' => e = .returned (.bool (extraB (.mk 7 n s keys kids))) ∧ Below w.heap.size w w' := by
  have hk := kindThere_any 7
  rw [show (decide ((1 : Int) ≤ 7) && decide ((7 : Int) ≤ 10)) = true from rfl] at hk
  have hm := hasMore_laid (.mk 7 n s keys kids) v
  obtain ⟨ka, va, kc, vc, rfl, _, _, hs, hkl, hvl, hkeys, hkids⟩ := rep_mk hr
  have hm1 := hm _ (Rep.mono (same_alloc w (.cells #[.int .i64 7, .int .i64 n, .string s, .slice ka keys.length kc, .slice va kids.length vc] 25)) _ _ hr) (hl.mono (same_alloc w _)) rfl
  rw [hf] at hm1
  clear hm hf
  go_enter Tryd.func63, Tryd.ntmps63
  go_wp2_with (first | (go_at_call 72; refine (hk _).mono ?_; rintro e w1 ⟨rfl, rfl⟩) | (go_at_call 90; refine hm1.mono ?_; rintro e w1 ⟨rfl, hb1⟩; have hb2 := box_first hb1; obtain ⟨x0, x1, x2, x3, x4⟩ := box_at hb2))
  go_ret
  exact ⟨ret_bool rfl, box_out hb2⟩

set_option maxHeartbeats 1000000 in
theorem sound_2 (n : Int) (s : ByteArray) (keys : List Int) (kids : List T) (v : Value) (w : World) (hr : Rep w (.mk 2 n s keys kids) v) (hl : HasLaid w) (hf : flagsB (.mk 2 n s keys kids) = true) :
    Calls Tryd.prog 63 #[v] w fun e w' => e = .returned (.bool (extraB (.mk 2 n s keys kids))) ∧ Below w.heap.size w w' := by
  have hk := kindThere_any 2
  rw [show (decide ((1 : Int) ≤ 2) && decide ((2 : Int) ≤ 10)) = true from rfl] at hk
  have hm := hasMore_laid (.mk 2 n s keys kids) v
  obtain ⟨ka, va, kc, vc, rfl, _, _, hs, hkl, hvl, hkeys, hkids⟩ := rep_mk hr
  have hm1 := hm _ (Rep.mono (same_alloc w (.cells #[.int .i64 2, .int .i64 n, .string s, .slice ka keys.length kc, .slice va kids.length vc] 25)) _ _ hr) (hl.mono (same_alloc w _)) rfl
  rw [hf] at hm1
  clear hm hf
  go_enter Tryd.func63, Tryd.ntmps63
  go_wp2_with (first | (go_at_call 72; refine (hk _).mono ?_; rintro e w1 ⟨rfl, rfl⟩) | (go_at_call 90; refine hm1.mono ?_; rintro e w1 ⟨rfl, hb1⟩; have hb2 := box_first hb1; obtain ⟨x0, x1, x2, x3, x4⟩ := box_at hb2))
  all_goals
    go_ret
    refine ⟨ret_bool ?_, box_out hb2⟩
    rw [show extraB (.mk 2 n s keys kids) = (decide (n = 0) || decide (n = 1)) from rfl]
    clear x0 x1 x2 x3 x4 hr hkids hkeys
    by_cases q0 : n = 0 <;> by_cases q1 : n = 1 <;> simp_all

set_option maxHeartbeats 1000000 in
theorem sound_4 (n : Int) (s : ByteArray) (keys : List Int) (kids : List T) (v : Value) (w : World) (hr : Rep w (.mk 4 n s keys kids) v) (hl : HasLaid w) (hf : flagsB (.mk 4 n s keys kids) = true) :
    Calls Tryd.prog 63 #[v] w fun e w' => e = .returned (.bool (extraB (.mk 4 n s keys kids))) ∧ Below w.heap.size w w' := by
  have hk := kindThere_any 4
  rw [show (decide ((1 : Int) ≤ 4) && decide ((4 : Int) ≤ 10)) = true from rfl] at hk
  have hm := hasMore_laid (.mk 4 n s keys kids) v
  obtain ⟨ka, va, kc, vc, rfl, _, _, hs, hkl, hvl, hkeys, hkids⟩ := rep_mk hr
  have hm1 := hm _ (Rep.mono (same_alloc w (.cells #[.int .i64 4, .int .i64 n, .string s, .slice ka keys.length kc, .slice va kids.length vc] 25)) _ _ hr) (hl.mono (same_alloc w _)) rfl
  rw [hf] at hm1
  clear hm hf
  go_enter Tryd.func63, Tryd.ntmps63
  go_wp2_with (first | (go_at_call 72; refine (hk _).mono ?_; rintro e w1 ⟨rfl, rfl⟩) | (go_at_call 90; refine hm1.mono ?_; rintro e w1 ⟨rfl, hb1⟩; have hb2 := box_first hb1; obtain ⟨x0, x1, x2, x3, x4⟩ := box_at hb2) | (go_at_call 91; refine (Tryd.strings_IndexByte s 0 _).mono ?_; rintro e w3 ⟨rfl, rfl⟩))
  all_goals
    go_ret
    refine ⟨ret_bool ?_, box_out hb2⟩
    rw [show extraB (.mk 4 n s keys kids) = noZero s from rfl, ← noZero_index]

set_option maxHeartbeats 1000000 in
theorem sound_6 (n : Int) (s : ByteArray) (keys : List Int) (kids : List T) (v : Value) (w : World) (hr : Rep w (.mk 6 n s keys kids) v) (hl : HasLaid w) (hf : flagsB (.mk 6 n s keys kids) = true) :
    Calls Tryd.prog 63 #[v] w fun e w' => e = .returned (.bool (extraB (.mk 6 n s keys kids))) ∧ Below w.heap.size w w' := by
  have hk := kindThere_any 6
  rw [show (decide ((1 : Int) ≤ 6) && decide ((6 : Int) ≤ 10)) = true from rfl] at hk
  have hm := hasMore_laid (.mk 6 n s keys kids) v
  obtain ⟨ka, va, kc, vc, rfl, _, _, hs, hkl, hvl, hkeys, hkids⟩ := rep_mk hr
  have hm1 := hm _ (Rep.mono (same_alloc w (.cells #[.int .i64 6, .int .i64 n, .string s, .slice ka keys.length kc, .slice va kids.length vc] 25)) _ _ hr) (hl.mono (same_alloc w _)) rfl
  rw [hf] at hm1
  clear hm hf
  go_enter Tryd.func63, Tryd.ntmps63
  go_wp2_with (first | (go_at_call 72; refine (hk _).mono ?_; rintro e w1 ⟨rfl, rfl⟩) | (go_at_call 90; refine hm1.mono ?_; rintro e w1 ⟨rfl, hb1⟩; have hb2 := box_first hb1; obtain ⟨x0, x1, x2, x3, x4⟩ := box_at hb2) | (go_at_call 92; refine (listSound_any kids va vc _ hvl (KidsIn.mono (Same.of_box hb2) _ _ _ hkids)).mono ?_; rintro e w3 ⟨rfl, hb3⟩))
  go_ret
  exact ⟨ret_bool rfl, box_out (box_next hb2 hb3)⟩

set_option maxHeartbeats 1000000 in
theorem sound_8 (n : Int) (s : ByteArray) (keys : List Int) (kids : List T) (v : Value) (w : World) (hr : Rep w (.mk 8 n s keys kids) v) (hl : HasLaid w) (hf : flagsB (.mk 8 n s keys kids) = true) :
    Calls Tryd.prog 63 #[v] w fun e w' => e = .returned (.bool (extraB (.mk 8 n s keys kids))) ∧ Below w.heap.size w w' := by
  have hk := kindThere_any 8
  rw [show (decide ((1 : Int) ≤ 8) && decide ((8 : Int) ≤ 10)) = true from rfl] at hk
  have hm := hasMore_laid (.mk 8 n s keys kids) v
  obtain ⟨ka, va, kc, vc, rfl, _, _, hs, hkl, hvl, hkeys, hkids⟩ := rep_mk hr
  have hm1 := hm _ (Rep.mono (same_alloc w (.cells #[.int .i64 8, .int .i64 n, .string s, .slice ka keys.length kc, .slice va kids.length vc] 25)) _ _ hr) (hl.mono (same_alloc w _)) rfl
  rw [hf] at hm1
  clear hm hf
  go_enter Tryd.func63, Tryd.ntmps63
  go_wp2_with (first | (go_at_call 72; refine (hk _).mono ?_; rintro e w1 ⟨rfl, rfl⟩) | (go_at_call 90; refine hm1.mono ?_; rintro e w1 ⟨rfl, hb1⟩; have hb2 := box_first hb1; obtain ⟨x0, x1, x2, x3, x4⟩ := box_at hb2) | (go_at_call 93; refine (objectSound_any _ _ _ (Rep.mono (Same.of_box hb2) _ _ hr)).mono ?_; rintro e w3 ⟨rfl, hb3⟩))
  go_ret
  exact ⟨ret_bool rfl, box_out (box_next hb2 hb3)⟩

set_option maxHeartbeats 1000000 in
theorem sound_9 (n : Int) (s : ByteArray) (keys : List Int) (kids : List T) (v : Value) (w : World) (hr : Rep w (.mk 9 n s keys kids) v) (hl : HasLaid w) (hf : flagsB (.mk 9 n s keys kids) = true) (hlen : kids.length ≤ 100000) :
    Calls Tryd.prog 63 #[v] w fun e w' => e = .returned (.bool (extraB (.mk 9 n s keys kids))) ∧ Below w.heap.size w w' := by
  have hk := kindThere_any 9
  rw [show (decide ((1 : Int) ≤ 9) && decide ((9 : Int) ≤ 10)) = true from rfl] at hk
  have hm := hasMore_laid (.mk 9 n s keys kids) v
  obtain ⟨ka, va, kc, vc, rfl, _, _, hs, hkl, hvl, hkeys, hkids⟩ := rep_mk hr
  have hm1 := hm _ (Rep.mono (same_alloc w (.cells #[.int .i64 9, .int .i64 n, .string s, .slice ka keys.length kc, .slice va kids.length vc] 25)) _ _ hr) (hl.mono (same_alloc w _)) rfl
  rw [hf] at hm1
  clear hm hf
  go_enter Tryd.func63, Tryd.ntmps63
  go_wp2_with (first | (go_at_call 72; refine (hk _).mono ?_; rintro e w1 ⟨rfl, rfl⟩) | (go_at_call 90; refine hm1.mono ?_; rintro e w1 ⟨rfl, hb1⟩; have hb2 := box_first hb1; obtain ⟨x0, x1, x2, x3, x4⟩ := box_at hb2) | (go_at_call 94; refine (choiceSound_any _ _ _ (Rep.mono (Same.of_box hb2) _ _ hr) hlen).mono ?_; rintro e w3 ⟨rfl, hb3⟩))
  go_ret
  exact ⟨ret_bool rfl, box_out (box_next hb2 hb3)⟩

set_option maxHeartbeats 1000000 in
theorem sound_10 (n : Int) (s : ByteArray) (keys : List Int) (kids : List T) (v : Value) (w : World) (hr : Rep w (.mk 10 n s keys kids) v) (hl : HasLaid w) (hf : flagsB (.mk 10 n s keys kids) = true) :
    Calls Tryd.prog 63 #[v] w fun e w' => e = .returned (.bool (extraB (.mk 10 n s keys kids))) ∧ Below w.heap.size w w' := by
  have hk := kindThere_any 10
  rw [show (decide ((1 : Int) ≤ 10) && decide ((10 : Int) ≤ 10)) = true from rfl] at hk
  have hm := hasMore_laid (.mk 10 n s keys kids) v
  obtain ⟨ka, va, kc, vc, rfl, _, _, hs, hkl, hvl, hkeys, hkids⟩ := rep_mk hr
  have hm1 := hm _ (Rep.mono (same_alloc w (.cells #[.int .i64 10, .int .i64 n, .string s, .slice ka keys.length kc, .slice va kids.length vc] 25)) _ _ hr) (hl.mono (same_alloc w _)) rfl
  rw [hf] at hm1
  clear hm hf
  go_enter Tryd.func63, Tryd.ntmps63
  go_wp2_with (first | (go_at_call 72; refine (hk _).mono ?_; rintro e w1 ⟨rfl, rfl⟩) | (go_at_call 90; refine hm1.mono ?_; rintro e w1 ⟨rfl, hb1⟩; have hb2 := box_first hb1; obtain ⟨x0, x1, x2, x3, x4⟩ := box_at hb2) | (go_at_call 95; refine (sequenceSound_any _ _ _ (Rep.mono (Same.of_box hb2) _ _ hr)).mono ?_; rintro e w3 ⟨rfl, hb3⟩))
  go_ret
  exact ⟨ret_bool rfl, box_out (box_next hb2 hb3)⟩

theorem sound_any (t : T) (v : Value) (w : World) (hr : Rep w t v) (hl : HasLaid w) (hlen : t.kids.length ≤ 100000) :
    Calls Tryd.prog 63 #[v] w fun e w' => e = .returned (.bool (soundB t)) ∧ Below w.heap.size w w' := by
  cases h : (decide (1 ≤ t.kind) && decide (t.kind ≤ 10)) with
  | false =>
    rw [show soundB t = false by unfold soundB; rw [h]; simp]
    exact sound_out t v w hr h
  | true =>
    cases hf : flagsB t with
    | false =>
      rw [show soundB t = false by unfold soundB; rw [hf]; simp]
      exact sound_bare t v w hr hl h hf
    | true =>
      rw [show soundB t = extraB t by unfold soundB; rw [h, hf]; simp]
      have h' := h
      simp only [Bool.and_eq_true, decide_eq_true_eq] at h'
      clear h
      obtain ⟨kd, n, s, keys, kids⟩ := t
      simp only [T.kind] at h'
      have hcases : kd = 1 ∨ kd = 2 ∨ kd = 3 ∨ kd = 4 ∨ kd = 5 ∨ kd = 6 ∨ kd = 7 ∨ kd = 8 ∨ kd = 9 ∨ kd = 10 := by omega
      rcases hcases with rfl | rfl | rfl | rfl | rfl | rfl | rfl | rfl | rfl | rfl
      · exact sound_1 n s keys kids v w hr hl hf
      · exact sound_2 n s keys kids v w hr hl hf
      · exact sound_3 n s keys kids v w hr hl hf
      · exact sound_4 n s keys kids v w hr hl hf
      · exact sound_5 n s keys kids v w hr hl hf
      · exact sound_6 n s keys kids v w hr hl hf
      · exact sound_7 n s keys kids v w hr hl hf
      · exact sound_8 n s keys kids v w hr hl hf
      · exact sound_9 n s keys kids v w hr hl hf hlen
      · exact sound_10 n s keys kids v w hr hl hf
end Go.Proofs.YtfbeeaibejggdaaDoor
