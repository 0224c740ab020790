/- What a choice offers: valid, has, numbers. -/
import Derived.Test.YtlpdeadmiinhoaaGreatDoorDB

/- EA: ValidChoice and Has of the code. -/
namespace Go.Proofs.YtlpdeadmiinhoaaGreatDoor
open Go.RowKit

theorem stepsOf_sp {c : Ch} (h : (c.kind = 3 ∧ c.list.length = 2) ∨ (c.kind = 4 ∧ c.list.length = 3)) : stepsOf c.list = c.sp := by
  unfold stepsOf Ch.sp
  rcases h with ⟨k, n⟩ | ⟨k, n⟩ <;> simp [k, n]
theorem nums_of_list {c : Ch} (hv : validC c = true) (hl : c.isList = true) : numsOf c = .list c.list := by
  obtain ⟨h1, _, h2⟩ := valid_cases hv
  rw [isList_iff] at hl
  unfold numsOf
  rcases h2 with ⟨k, hn⟩ | ⟨k, h2, h3, h4⟩ | ⟨k, _⟩ | ⟨k, _⟩
  · rw [if_pos ⟨k, hn⟩]
  · rw [if_neg (by omega), if_pos ⟨k, h3, h4⟩]
  · omega
  · omega
theorem nums_of_sp {c : Ch} (hv : validC c = true) (hl : c.isList = false) : numsOf c = .step c.sp := by
  obtain ⟨h1, _, h2⟩ := valid_cases hv
  rw [isList_no] at hl
  unfold numsOf
  rcases h2 with ⟨k, hn⟩ | ⟨k, h2, h3, h4⟩ | ⟨k, hn, _⟩ | ⟨k, hn, h3, h4, h5⟩
  · omega
  · omega
  · rw [if_neg (by omega), if_neg (by omega), if_pos ⟨k, hn⟩, stepsOf_sp (Or.inl ⟨k, hn⟩)]
  · have e : c.sp.st = c.list.getD 2 0 := by unfold Ch.sp; simp [k]
    rw [if_neg (by omega), if_neg (by omega), if_neg (by omega), if_pos ⟨k, hn, by omega, by omega⟩, stepsOf_sp (Or.inr ⟨k, hn⟩)]
theorem nums_has {c : Ch} (hv : validC c = true) (n : Int) : (numsOf c).has n = c.has n := by
  cases hl : c.isList with
  | true => rw [nums_of_list hv hl, has_list hl]; rfl
  | false => rw [nums_of_sp hv hl, has_sp hl]; rfl
/-- Which choices are valid, as the code asks it. -/
theorem nums_valid {c : Ch} (hb : boundB c.list = true) : (numsOf c).has c.dflt = validC c := by
  cases hv : validC c with
  | true => rw [nums_has hv]; exact (valid_cases hv).2.1
  | false =>
    unfold validC at hv
    rw [hb, Bool.true_and] at hv
    unfold numsOf
    by_cases h1 : c.kind = 1 ∧ c.list.length = 1
    · rw [if_pos h1]
      have hs : shapeB c = true := by unfold shapeB; rw [if_pos h1.1]; simp [h1.2]
      rw [hs, Bool.true_and, has_list ((isList_iff c).2 (Or.inl h1.1))] at hv
      exact hv
    rw [if_neg h1]
    by_cases h2 : c.kind = 2 ∧ c.list.length ≤ 20 ∧ distinctB c.list = true
    · rw [if_pos h2]
      by_cases h0 : 1 ≤ c.list.length
      · have hs : shapeB c = true := by unfold shapeB; rw [if_neg (by omega), if_pos h2.1]; simp [h2.2.1, h2.2.2, h0]
        rw [hs, Bool.true_and, has_list ((isList_iff c).2 (Or.inr h2.1))] at hv
        exact hv
      · have : c.list = [] := by cases h : c.list with
          | nil => rfl
          | cons x r => rw [h] at h0; simp at h0
        rw [this]; rfl
    rw [if_neg h2]
    by_cases h3 : c.kind = 3 ∧ c.list.length = 2
    · rw [if_pos h3, stepsOf_sp (Or.inl h3)]
      have hl : c.isList = false := (isList_no c).2 (by omega)
      rw [has_sp hl] at hv
      show c.sp.has c.dflt = false
      by_cases hle : c.sp.lo ≤ c.sp.hi
      · have hs : shapeB c = true := by unfold shapeB; rw [if_neg (by omega), if_neg (by omega), if_pos h3.1]; simp [h3.2, hle]
        rw [hs, Bool.true_and] at hv
        exact hv
      · cases hh : c.sp.has c.dflt with
        | false => rfl
        | true => rw [Sp.has_iff] at hh; omega
    rw [if_neg h3]
    by_cases h4 : c.kind = 4 ∧ c.list.length = 3 ∧ 1 ≤ c.list.getD 2 0 ∧ c.list.getD 2 0 ≤ 1000
    · rw [if_pos h4, stepsOf_sp (Or.inr ⟨h4.1, h4.2.1⟩)]
      have hl : c.isList = false := (isList_no c).2 (by omega)
      have e : c.sp.st = c.list.getD 2 0 := by unfold Ch.sp; simp [h4.1]
      rw [has_sp hl] at hv
      show c.sp.has c.dflt = false
      by_cases hle : c.sp.lo ≤ c.sp.hi
      · have hs : shapeB c = true := by
          unfold shapeB; rw [if_neg (by omega), if_neg (by omega), if_neg (by omega), if_pos h4.1, e]
          simp only [Bool.and_eq_true, decide_eq_true_eq, beq_iff_eq]
          exact ⟨⟨⟨h4.2.1, hle⟩, h4.2.2.1⟩, h4.2.2.2⟩
        rw [hs, Bool.true_and] at hv
        exact hv
      · cases hh : c.sp.has c.dflt with
        | false => rfl
        | true => rw [Sp.has_iff] at hh; omega
    rw [if_neg h4]; rfl

def bAt (l : List Int) (j : Nat) : Bool := decide (0 ≤ l.getD j 0) && decide (l.getD j 0 ≤ 1000000000)
theorem boundB_yes {l : List Int} (h : ∀ j, j < l.length → bAt l j = true) : boundB l = true := by
  refine boundB_of fun n hn => ?_
  rw [List.mem_iff_getElem] at hn
  obtain ⟨j, hj, rfl⟩ := hn
  have := h j hj
  unfold bAt at this
  simpa [hj] using this
theorem boundB_no {l : List Int} {j : Nat} (hj : j < l.length) (h : bAt l j = false) : boundB l = false := by
  cases hb : boundB l with
  | false => rfl
  | true =>
    have := boundB_at hb j hj
    unfold bAt at h
    simp only [Bool.and_eq_false_iff, decide_eq_false_iff_not] at h
    omega
theorem bAt_mk {l : List Int} {j : Nat} {x : Int} (hx : Hid (l.getD j 0 = x)) (h1 : ¬ x < 0) (h2 : ¬ 1000000000 < x) : bAt l j = true := by
  unfold bAt; rw [hx.out]; simp; omega
theorem bAt_no {l : List Int} {j : Nat} {x : Int} (hx : Hid (l.getD j 0 = x)) (h : x < 0 ∨ 1000000000 < x) : bAt l j = false := by
  unfold bAt; rw [hx.out]; simp; omega

theorem numbersOf_list {c : Ch} {v : Value} {w : World} {l : List Int} (hc : ChIn w c v) (hbd : boundB c.list = true) (h : numsOf c = .list l) :
    Calls Tryz.prog 52 #[v] w fun e w' => ∃ a cap, e = .returned (.iface 107 (.slice a l.length cap)) ∧ l.length ≤ 17592186044416 ∧ IntsIn w' a l ∧ Below w.heap.size w w' :=
  (numbersOf_any c v w hc hbd).mono fun e w' ⟨x, he, hx, hb⟩ => by
    rw [h] at hx
    obtain ⟨a, cap, rfl, h1, h2⟩ := hx
    exact ⟨a, cap, he, h1, h2, hb⟩
theorem numbersOf_step {c : Ch} {v : Value} {w : World} {s : Sp} (hc : ChIn w c v) (hbd : boundB c.list = true) (h : numsOf c = .step s) :
    Calls Tryz.prog 52 #[v] w fun e w' => e = .returned (.iface 110 s.val) ∧ s.Nice ∧ Below w.heap.size w w' :=
  (numbersOf_any c v w hc hbd).mono fun e w' ⟨x, he, hx, hb⟩ => by
    rw [h] at hx
    obtain ⟨rfl, h1⟩ := hx
    exact ⟨he, h1, hb⟩

/-- Whether the numbers of a choice hold its default: what the code asks at the end, in both kinds. -/
theorem ask_list {c : Ch} {v : Value} {w : World} {l : List Int} (h : numsOf c = .list l) (hc : ChIn w c v) (hbd : boundB c.list = true) :
    ∀ wr, Same w wr → Calls Tryz.prog 52 #[v] wr fun e w' => ∃ a cap, e = .returned (.iface 107 (.slice a l.length cap)) ∧ l.length ≤ 17592186044416 ∧ IntsIn w' a l ∧ Below wr.heap.size wr w' :=
  fun _ hs => numbersOf_list (hc.mono hs) hbd h
theorem ask_step {c : Ch} {v : Value} {w : World} {s : Sp} (h : numsOf c = .step s) (hc : ChIn w c v) (hbd : boundB c.list = true) :
    ∀ wr, Same w wr → Calls Tryz.prog 52 #[v] wr fun e w' => e = .returned (.iface 110 s.val) ∧ s.Nice ∧ Below wr.heap.size wr w' :=
  fun _ hs => numbersOf_step (hc.mono hs) hbd h
end Go.Proofs.YtlpdeadmiinhoaaGreatDoor

/- EB: ValidChoice of the code, walked. -/
namespace Go.Proofs.YtlpdeadmiinhoaaGreatDoor
open Go.RowKit

set_option maxRecDepth 100000 in
set_option maxHeartbeats 1600000 in
theorem validChoice_bad (c : Ch) (v : Value) (w : World) (hc : ChIn w c v) (hbd : boundB c.list = false) :
    Calls Tryz.prog 14 #[v] w fun e w' => e = .returned (.bool false) ∧ Below w.heap.size w w' := by
  obtain ⟨a, cap, rfl, hk1, hd1, hl, hin, hcap⟩ := hc
  obtain ⟨kd, d, l⟩ := c
  simp only at hl hin hcap hbd ⊢
  have HB : Hid (Below w.heap.size w (w.alloc (.cells #[.int .i64 kd, .int .i64 d, .slice a l.length cap] 24))) := Lib.hid ((Below.refl _ _).alloc (Nat.le_refl _) _)
  have HIn := Lib.hid (hin.mono (Same.alloc w (.cells #[.int .i64 kd, .int .i64 d, .slice a l.length cap] 24)))
  have Hbd := Lib.hid hbd
  clear hin hbd hcap
  go_enter Tryz.func14, Tryz.ntmps14
  go_wp2_with fail
  go_loop [8] (fun i => ∃ (k : Nat), i = .int .i64 k ∧ k ≤ l.length ∧ ∀ j, j < k → bAt l j = true) (fun i => l.length - (intOf i).toNat)
  case atStart => exact ⟨0, rfl, Nat.zero_le _, fun _ h => absurd h (Nat.not_lt_zero _)⟩
  case round =>
    obtain ⟨k, rfl, hkl, hok⟩ := hrel
    have Hok := Lib.hid hok
    clear hok
    have hlt : k < l.length := by
      by_cases h : k < l.length
      · exact h
      · have := boundB_yes fun j hj => Hok.out j (by omega)
        rw [Hbd.out] at this
        cases this
    obtain ⟨b, off, rfl, hcell, _⟩ := HIn.out k hlt
    obtain ⟨x, hx⟩ : ∃ x, l.getD k 0 = x := ⟨_, rfl⟩
    rw [hx] at hcell
    have Hx := Lib.hid hx
    clear hx
    by_cases h1 : x < 0
    · go_wp2_with fail
      go_ret
      exact ⟨rfl, HB.out⟩
    by_cases h2 : 1000000000 < x
    · go_wp2_with fail
      go_ret
      exact ⟨rfl, HB.out⟩
    · go_wp2_with fail
      go_round
      case rel => exact ⟨k + 1, by go_num, by omega, ok_snoc Hok (bAt_mk Hx h1 h2)⟩
      case measure => simp [intOf]; omega

set_option maxRecDepth 100000 in
set_option maxHeartbeats 1600000 in
theorem validChoice_list (c : Ch) (v : Value) (w : World) (l : List Int) (hN : numsOf c = .list l) (hc : ChIn w c v) (hbd : boundB c.list = true) :
    Calls Tryz.prog 14 #[v] w fun e w' => e = .returned (.bool (l.contains c.dflt)) ∧ Below w.heap.size w w' := by
  have hc0 := hc
  obtain ⟨a, cap, rfl, hk1, hd1, hl, hin, hcap⟩ := hc
  obtain ⟨X, hX⟩ : ∃ X : Obj, X = .cells #[.int .i64 c.kind, .int .i64 c.dflt, .slice a c.list.length cap] 24 := ⟨_, rfl⟩
  have HA := Lib.hid fun (wr : World) (hi : In1 w X wr) => (ask_list hN hc0 hbd wr hi.same).mono fun e w' ⟨a', cap', h1, h2, h3, h4⟩ => (⟨a', cap', h1, h2, h3, hi.next h4⟩ : ∃ a' cap', e = Ending.returned (.iface 107 (.slice a' l.length cap')) ∧ l.length ≤ 17592186044416 ∧ IntsIn w' a' l ∧ In1 w X w')
  obtain ⟨B, hB⟩ : ∃ B, l.contains c.dflt = B := ⟨_, rfl⟩
  have HH := Lib.hid fun (wr : World) (a' : Option Addr) (cap' : Nat) (h1 : l.length ≤ 17592186044416) (h2 : IntsIn wr a' l) => hB ▸ listed_has l a' cap' c.dflt wr h1 h2
  have HC := Lib.hid fun (wr : World) (h : In1 w X wr) => In1.cells3 (hX ▸ h)
  have HI := In1.first w X
  rw [hX] at HI
  have HF : Hid (In1 w X (w.alloc (.cells #[.int .i64 c.kind, .int .i64 c.dflt, .slice a c.list.length cap] 24))) := Lib.hid (hX ▸ In1.first w X)
  have hm := m_listed_has
  rw [hB]
  obtain ⟨kd, d, L⟩ := c
  simp only at hl hin hcap hbd HA HC HF HH ⊢
  have HIn := Lib.hid (hin.mono (Same.alloc w (.cells #[.int .i64 kd, .int .i64 d, .slice a L.length cap] 24)))
  have Hbd := Lib.hid hbd
  clear hin hbd hcap HI hX hB hc0 hN
  go_enter Tryz.func14, Tryz.ntmps14
  go_wp2_with fail
  go_loop [8] (fun i => ∃ (k : Nat), i = .int .i64 k ∧ k ≤ L.length) (fun i => L.length - (intOf i).toNat)
  case atStart => exact ⟨0, rfl, Nat.zero_le _⟩
  case round =>
    obtain ⟨k, rfl, hkl⟩ := hrel
    by_cases hlt : k < L.length
    · obtain ⟨b, off, rfl, hcell, _⟩ := HIn.out k hlt
      have hbk := boundB_at Hbd.out k hlt
      obtain ⟨x, hx⟩ : ∃ x, L.getD k 0 = x := ⟨_, rfl⟩
      rw [hx] at hcell hbk
      have h1 : ¬ x < 0 := by omega
      have h2 : ¬ 1000000000 < x := by omega
      clear hx hbk
      go_wp2_with fail
      go_round
      case rel => exact ⟨k + 1, by go_num, by omega⟩
      case measure => simp [intOf]; omega
    · go_upto_region 7 with fail
      have HS : Hid (∀ wx : World, In1 w X wx → wx.cell? ⟨w.heap.size, 0, none⟩ = some (.int .i64 kd) ∧ wx.cell? ⟨w.heap.size, 1, none⟩ = some (.int .i64 d) ∧ wx.cell? ⟨w.heap.size, 2, none⟩ = some (.slice a L.length cap) ∧ In1 w X wx) := Lib.hid fun wx h => by
        obtain ⟨p0, p1, p2⟩ := HC.out wx h
        exact ⟨p0, p1, p2, h⟩
      go_region_held3 (fun wx => wx.cell? ⟨w.heap.size, 0, none⟩ = some (.int .i64 kd) ∧ wx.cell? ⟨w.heap.size, 1, none⟩ = some (.int .i64 d) ∧ wx.cell? ⟨w.heap.size, 2, none⟩ = some (.slice a L.length cap) ∧ In1 w X wx)
        (first
          | exact HS.out _ HF.out.drew
          | (go_split_ands; exact HS.out _ (by assumption))
          | exact HS.out _ hk)
        (first
          | (go_at_call 52; (with_reducible refine (HA.out _ (by go_split_ands; assumption)).mono ?_); rintro e wk ⟨a', cap', rfl, hk1, hk2, hk⟩; have hcall := HH.out wk a' cap' hk1 hk2)
          | (go_at_call 245; (with_reducible refine hcall.mono ?_); rintro e wk2 ⟨rfl, rfl⟩))
      all_goals
        go_wp2_with fail
        go_ret
        refine ⟨rfl, ?_⟩
        go_split_ands
        exact In1.out (X := X) (by assumption)
set_option maxRecDepth 100000 in
set_option maxHeartbeats 1600000 in
theorem validChoice_step (c : Ch) (v : Value) (w : World) (s : Sp) (hN : numsOf c = .step s) (hc : ChIn w c v) (hbd : boundB c.list = true) :
    Calls Tryz.prog 14 #[v] w fun e w' => e = .returned (.bool (s.has c.dflt)) ∧ Below w.heap.size w w' := by
  have hc0 := hc
  obtain ⟨a, cap, rfl, hk1, hd1, hl, hin, hcap⟩ := hc
  obtain ⟨X, hX⟩ : ∃ X : Obj, X = .cells #[.int .i64 c.kind, .int .i64 c.dflt, .slice a c.list.length cap] 24 := ⟨_, rfl⟩
  have HA := Lib.hid fun (wr : World) (hi : In1 w X wr) => (ask_step hN hc0 hbd wr hi.same).mono fun e w' ⟨h1, h2, h4⟩ => (⟨h1, h2, hi.next h4⟩ : e = Ending.returned (.iface 110 s.val) ∧ s.Nice ∧ In1 w X w')
  obtain ⟨B, hB⟩ : ∃ B, s.has c.dflt = B := ⟨_, rfl⟩
  have HH := Lib.hid fun (wr : World) (hi : In1 w X wr) (h1 : s.Nice) => calls_in1 hi (hB ▸ stepped_has s c.dflt wr h1)
  have HC := Lib.hid fun (wr : World) (h : In1 w X wr) => In1.cells3 (hX ▸ h)
  have HI := In1.first w X
  rw [hX] at HI
  have HF : Hid (In1 w X (w.alloc (.cells #[.int .i64 c.kind, .int .i64 c.dflt, .slice a c.list.length cap] 24))) := Lib.hid (hX ▸ In1.first w X)
  have hm := m_stepped_has
  rw [hB]
  obtain ⟨kd, d, L⟩ := c
  obtain ⟨lo, hi', st⟩ := s
  unfold Sp.val at HA HH
  simp only at hl hin hcap hbd HA HC HF HH ⊢
  have HIn := Lib.hid (hin.mono (Same.alloc w (.cells #[.int .i64 kd, .int .i64 d, .slice a L.length cap] 24)))
  have Hbd := Lib.hid hbd
  clear hin hbd hcap HI hX hB hc0 hN
  go_enter Tryz.func14, Tryz.ntmps14
  go_wp2_with fail
  go_loop [8] (fun i => ∃ (k : Nat), i = .int .i64 k ∧ k ≤ L.length) (fun i => L.length - (intOf i).toNat)
  case atStart => exact ⟨0, rfl, Nat.zero_le _⟩
  case round =>
    obtain ⟨k, rfl, hkl⟩ := hrel
    by_cases hlt : k < L.length
    · obtain ⟨b, off, rfl, hcell, _⟩ := HIn.out k hlt
      have hbk := boundB_at Hbd.out k hlt
      obtain ⟨x, hx⟩ : ∃ x, L.getD k 0 = x := ⟨_, rfl⟩
      rw [hx] at hcell hbk
      have h1 : ¬ x < 0 := by omega
      have h2 : ¬ 1000000000 < x := by omega
      clear hx hbk
      go_wp2_with fail
      go_round
      case rel => exact ⟨k + 1, by go_num, by omega⟩
      case measure => simp [intOf]; omega
    · go_upto_region 7 with fail
      have HS : Hid (∀ wx : World, In1 w X wx → wx.cell? ⟨w.heap.size, 0, none⟩ = some (.int .i64 kd) ∧ wx.cell? ⟨w.heap.size, 1, none⟩ = some (.int .i64 d) ∧ wx.cell? ⟨w.heap.size, 2, none⟩ = some (.slice a L.length cap) ∧ In1 w X wx) := Lib.hid fun wx h => by
        obtain ⟨p0, p1, p2⟩ := HC.out wx h
        exact ⟨p0, p1, p2, h⟩
      go_region_held3 (fun wx => wx.cell? ⟨w.heap.size, 0, none⟩ = some (.int .i64 kd) ∧ wx.cell? ⟨w.heap.size, 1, none⟩ = some (.int .i64 d) ∧ wx.cell? ⟨w.heap.size, 2, none⟩ = some (.slice a L.length cap) ∧ In1 w X wx)
        (first
          | exact HS.out _ HF.out.drew
          | (go_split_ands; exact HS.out _ (by assumption))
          | exact HS.out _ hk)
        (first
          | (go_at_call 52; (with_reducible refine (HA.out _ (by go_split_ands; assumption)).mono ?_); rintro e wk ⟨rfl, hk1, hk⟩; have hcall := HH.out wk hk hk1)
          | (go_at_call 190; (with_reducible refine hcall.mono ?_); rintro e wk2 ⟨rfl, hk⟩))
      all_goals
        go_wp2_with fail
        go_ret
        refine ⟨rfl, ?_⟩
        go_split_ands
        exact In1.out (X := X) (by assumption)

theorem validChoice_any (c : Ch) (v : Value) (w : World) (hc : ChIn w c v) :
    Calls Tryz.prog 14 #[v] w fun e w' => e = .returned (.bool (validC c)) ∧ Below w.heap.size w w' := by
  cases hb : boundB c.list with
  | false =>
    have : validC c = false := by unfold validC; rw [hb]; rfl
    rw [this]
    exact validChoice_bad c v w hc hb
  | true =>
    rw [← nums_valid hb]
    cases hN : numsOf c with
    | list l => exact validChoice_list c v w l hN hc hb
    | step s => exact validChoice_step c v w s hN hc hb
end Go.Proofs.YtlpdeadmiinhoaaGreatDoor

/- EC: Has and Numbers of the code. -/
namespace Go.Proofs.YtlpdeadmiinhoaaGreatDoor
open Go.RowKit

theorem valid_bound {c : Ch} (h : validC c = true) : boundB c.list = true := (valid_cases h).1

set_option maxRecDepth 100000 in
set_option maxHeartbeats 1000000 in
theorem has_bad (c : Ch) (v : Value) (n : Int) (w : World) (hc : ChIn w c v) (hv : validC c = false) :
    Calls Tryz.prog 10 #[v, .int .i64 n] w fun e w' => e = .returned (.tuple #[.bool false, .int .i64 1]) ∧ Below w.heap.size w w' := by
  have hc0 := hc
  obtain ⟨a, cap, rfl, _, _, _, _, _⟩ := hc
  have h1 := validChoice_any c _ _ (hc0.mono (Same.alloc w (.cells #[.int .i64 c.kind, .int .i64 c.dflt, .slice a c.list.length cap] 24)))
  have HB : Hid (Below w.heap.size w (w.alloc (.cells #[.int .i64 c.kind, .int .i64 c.dflt, .slice a c.list.length cap] 24))) := Lib.hid ((Below.refl _ _).alloc (Nat.le_refl _) _)
  rw [hv] at h1
  clear hc0 hv
  go_enter Tryz.func10, Tryz.ntmps10
  go_wp2_with (go_at_call 14; (with_reducible refine h1.mono ?_); rintro e w1 ⟨rfl, hb1⟩)
  go_ret2
  exact ⟨rfl, HB.out.trans (hb1.mono (by simp))⟩

set_option maxRecDepth 100000 in
set_option maxHeartbeats 1000000 in
theorem has_ok_list (c : Ch) (v : Value) (n : Int) (w : World) (l : List Int) (hN : numsOf c = .list l) (hc : ChIn w c v) (hv : validC c = true) :
    Calls Tryz.prog 10 #[v, .int .i64 n] w fun e w' => e = .returned (.tuple #[.bool (l.contains n), .int .i64 0]) ∧ Below w.heap.size w w' := by
  have hc0 := hc
  obtain ⟨a, cap, rfl, _, _, _, _, _⟩ := hc
  obtain ⟨X, hX⟩ : ∃ X : Obj, X = .cells #[.int .i64 c.kind, .int .i64 c.dflt, .slice a c.list.length cap] 24 := ⟨_, rfl⟩
  have h1 := calls_in1 (In1.first w X) (validChoice_any c _ _ (hc0.mono (Same.alloc w X)))
  have HA := Lib.hid fun (wr : World) (hi : In1 w X wr) => (ask_list hN hc0 (valid_bound hv) wr hi.same).mono fun e w' ⟨a', cap', h1, h2, h3, h4⟩ => (⟨a', cap', h1, h2, h3, hi.next h4⟩ : ∃ a' cap', e = Ending.returned (.iface 107 (.slice a' l.length cap')) ∧ l.length ≤ 17592186044416 ∧ IntsIn w' a' l ∧ In1 w X w')
  obtain ⟨B, hB⟩ : ∃ B, l.contains n = B := ⟨_, rfl⟩
  have HH := Lib.hid fun (wr : World) (a' : Option Addr) (cap' : Nat) (h1 : l.length ≤ 17592186044416) (h2 : IntsIn wr a' l) => hB ▸ listed_has l a' cap' n wr h1 h2
  have HC := Lib.hid fun (wr : World) (h : In1 w X wr) => In1.cells3 (hX ▸ h)
  have hm := m_listed_has
  rw [hB]
  rw [hv, hX] at h1
  have hXX := Lib.hid hX
  clear hc0 hX hB hN hv
  go_enter Tryz.func10, Tryz.ntmps10
  go_wp2_with (first
    | (go_at_call 14; (with_reducible refine h1.mono ?_); rintro e w1 ⟨rfl, hi1⟩; rw [← hXX.out] at hi1; obtain ⟨p0, p1, p2⟩ := HC.out w1 hi1)
    | (go_at_call 52; (with_reducible refine (HA.out _ hi1).mono ?_); rintro e wk ⟨a', cap', rfl, hk1, hk2, hk⟩; have hcall := HH.out wk a' cap' hk1 hk2)
    | (go_at_call 245; (with_reducible refine hcall.mono ?_); rintro e wk2 ⟨rfl, rfl⟩))
  go_ret2
  exact ⟨rfl, hk.out⟩

set_option maxRecDepth 100000 in
set_option maxHeartbeats 1000000 in
theorem has_ok_step (c : Ch) (v : Value) (n : Int) (w : World) (s : Sp) (hN : numsOf c = .step s) (hc : ChIn w c v) (hv : validC c = true) :
    Calls Tryz.prog 10 #[v, .int .i64 n] w fun e w' => e = .returned (.tuple #[.bool (s.has n), .int .i64 0]) ∧ Below w.heap.size w w' := by
  have hc0 := hc
  obtain ⟨a, cap, rfl, _, _, _, _, _⟩ := hc
  obtain ⟨X, hX⟩ : ∃ X : Obj, X = .cells #[.int .i64 c.kind, .int .i64 c.dflt, .slice a c.list.length cap] 24 := ⟨_, rfl⟩
  have h1 := calls_in1 (In1.first w X) (validChoice_any c _ _ (hc0.mono (Same.alloc w X)))
  have HA := Lib.hid fun (wr : World) (hi : In1 w X wr) => (ask_step hN hc0 (valid_bound hv) wr hi.same).mono fun e w' ⟨h1, h2, h4⟩ => (⟨h1, h2, hi.next h4⟩ : e = Ending.returned (.iface 110 s.val) ∧ s.Nice ∧ In1 w X w')
  obtain ⟨B, hB⟩ : ∃ B, s.has n = B := ⟨_, rfl⟩
  have HH := Lib.hid fun (wr : World) (hi : In1 w X wr) (h1 : s.Nice) => calls_in1 hi (hB ▸ stepped_has s n wr h1)
  have HC := Lib.hid fun (wr : World) (h : In1 w X wr) => In1.cells3 (hX ▸ h)
  have hm := m_stepped_has
  rw [hB]
  rw [hv, hX] at h1
  have hXX := Lib.hid hX
  clear hc0 hX hB hN hv
  obtain ⟨lo, hi', st⟩ := s
  unfold Sp.val at HA HH
  simp only at HA HH
  go_enter Tryz.func10, Tryz.ntmps10
  go_wp2_with (first
    | (go_at_call 14; (with_reducible refine h1.mono ?_); rintro e w1 ⟨rfl, hi1⟩; rw [← hXX.out] at hi1; obtain ⟨p0, p1, p2⟩ := HC.out w1 hi1)
    | (go_at_call 52; (with_reducible refine (HA.out _ hi1).mono ?_); rintro e wk ⟨rfl, hk1, hk⟩; have hcall := HH.out wk hk hk1)
    | (go_at_call 190; (with_reducible refine hcall.mono ?_); rintro e wk2 ⟨rfl, hk⟩))
  go_ret2
  exact ⟨rfl, In1.out (X := X) (by assumption)⟩

def hasV (c : Ch) (n : Int) : Value := if validC c = true then .tuple #[.bool (c.has n), .int .i64 0] else .tuple #[.bool false, .int .i64 1]
theorem has_any (c : Ch) (v : Value) (n : Int) (w : World) (hc : ChIn w c v) :
    Calls Tryz.prog 10 #[v, .int .i64 n] w fun e w' => e = .returned (hasV c n) ∧ Below w.heap.size w w' := by
  unfold hasV
  cases hv : validC c with
  | false => rw [if_neg (by simp)]; exact has_bad c v n w hc hv
  | true =>
    rw [if_pos rfl, ← nums_has hv]
    cases hN : numsOf c with
    | list l => exact has_ok_list c v n w l hN hc hv
    | step s => exact has_ok_step c v n w s hN hc hv
end Go.Proofs.YtlpdeadmiinhoaaGreatDoor

/- ED: Numbers of the code. -/
namespace Go.Proofs.YtlpdeadmiinhoaaGreatDoor
open Go.RowKit

def firstN (c : Ch) (most : Nat) : List Int := if c.isList = true then c.list.take most else c.sp.firsts most
/-- Numbers and an error are handed back. -/
def NumOut (w : World) (L : List Int) (E : Int) (e : Ending) (w' : World) : Prop := ∃ a cap, e = .returned (.tuple #[.slice a L.length cap, .int .i64 E]) ∧ IntsIn w' a L ∧ L.length ≤ cap ∧ Below w.heap.size w w'
theorem numOut_nil {w w' : World} {E : Int} {e : Ending} (he : e = .returned (.tuple #[.slice none 0 0, .int .i64 E])) (hb : Below w.heap.size w w') : NumOut w [] E e w' := ⟨none, 0, he, IntsIn.nil _ _, by simp, hb⟩

theorem sp_nice {s : Sp} (h : s.Ok) : s.Nice := by
  obtain ⟨h1, h2, h3, h4, h5⟩ := h
  exact ⟨h1, by omega, by omega, h3, h4, by omega⟩
theorem firstN_I64 {c : Ch} (hv : validC c = true) (most : Nat) : ∀ n ∈ firstN c most, I64 n := by
  intro n hn
  unfold firstN at hn
  unfold I64
  cases hl : c.isList with
  | true =>
    rw [hl, if_pos rfl] at hn
    have := boundB_mem (valid_bound hv) (List.mem_of_mem_take hn)
    omega
  | false =>
    rw [hl, if_neg (by simp)] at hn
    obtain ⟨h1, h2, h3, h4, h5⟩ := (valid_sp hv hl).1
    have := boundB_mem (firsts_bound h2 h4 h1 h3 most) hn
    omega
theorem row_out {B : Nat} {w : World} {v : Value} {L : List Int} (h : Row B w v L) (hI : ∀ n ∈ L, I64 n) : ∃ a cap, v = .slice a L.length cap ∧ IntsIn w a L ∧ L.length ≤ cap := h.out hI

theorem firstOf_any (c : Ch) (hv : validC c = true) (most : Nat) (hm : most ≤ 1000) :
    (∀ l a cap w, numsOf c = .list l → IntsIn w a l → Calls Tryz.prog 53 #[.iface 107 (.slice a l.length cap), .int .i64 most] w fun e w' => RowOut w (firstN c most) e w') ∧
    (∀ s w, numsOf c = .step s → Calls Tryz.prog 53 #[.iface 110 s.val, .int .i64 most] w fun e w' => RowOut w (firstN c most) e w') := by
  unfold firstN
  cases hl : c.isList with
  | true =>
    have e := nums_of_list hv hl
    refine ⟨fun l a cap w h hin => ?_, fun s w h => (by rw [e] at h; cases h)⟩
    rw [e] at h
    cases h
    rw [if_pos rfl]
    exact firstOf_list _ a cap most w (by have := (valid_list hv hl).2.2.1; omega) hm hin
  | false =>
    have e := nums_of_sp hv hl
    refine ⟨fun l a cap w h hin => (by rw [e] at h; cases h), fun s w h => ?_⟩
    rw [e] at h
    cases h
    rw [if_neg (by simp)]
    have hok := (valid_sp hv hl).1
    exact firstOf_step _ most w (sp_nice hok) hok.2.1 hm

set_option maxRecDepth 100000 in
set_option maxHeartbeats 1000000 in
theorem numbers_bad (c : Ch) (v : Value) (most : Int) (w : World) (hc : ChIn w c v) (hv : validC c = false) :
    Calls Tryz.prog 12 #[v, .int .i64 most] w fun e w' => NumOut w [] 1 e w' := by
  have hc0 := hc
  obtain ⟨a, cap, rfl, _, _, _, _, _⟩ := hc
  have h1 := validChoice_any c _ _ (hc0.mono (Same.alloc w (.cells #[.int .i64 c.kind, .int .i64 c.dflt, .slice a c.list.length cap] 24)))
  have HB : Hid (Below w.heap.size w (w.alloc (.cells #[.int .i64 c.kind, .int .i64 c.dflt, .slice a c.list.length cap] 24))) := Lib.hid ((Below.refl _ _).alloc (Nat.le_refl _) _)
  rw [hv] at h1
  clear hc0 hv
  go_enter Tryz.func12, Tryz.ntmps12
  go_wp2_with (go_at_call 14; (with_reducible refine h1.mono ?_); rintro e w1 ⟨rfl, hb1⟩)
  go_ret2
  exact numOut_nil rfl (HB.out.trans (hb1.mono (by simp)))

set_option maxRecDepth 100000 in
set_option maxHeartbeats 1000000 in
theorem numbers_range (c : Ch) (v : Value) (most : Int) (w : World) (hc : ChIn w c v) (hv : validC c = true) (hm : most < 0 ∨ 1000 < most) :
    Calls Tryz.prog 12 #[v, .int .i64 most] w fun e w' => NumOut w [] 7 e w' := by
  have hc0 := hc
  obtain ⟨a, cap, rfl, _, _, _, _, _⟩ := hc
  have h1 := validChoice_any c _ _ (hc0.mono (Same.alloc w (.cells #[.int .i64 c.kind, .int .i64 c.dflt, .slice a c.list.length cap] 24)))
  have HB : Hid (Below w.heap.size w (w.alloc (.cells #[.int .i64 c.kind, .int .i64 c.dflt, .slice a c.list.length cap] 24))) := Lib.hid ((Below.refl _ _).alloc (Nat.le_refl _) _)
  rw [hv] at h1
  clear hc0 hv
  rcases hm with hm | hm
  · go_enter Tryz.func12, Tryz.ntmps12
    go_wp2_with (go_at_call 14; (with_reducible refine h1.mono ?_); rintro e w1 ⟨rfl, hb1⟩)
    go_ret2
    exact numOut_nil rfl (HB.out.trans (hb1.mono (by simp)))
  · have hm' : ¬ most < 0 := by omega
    go_enter Tryz.func12, Tryz.ntmps12
    go_wp2_with (go_at_call 14; (with_reducible refine h1.mono ?_); rintro e w1 ⟨rfl, hb1⟩)
    go_ret2
    exact numOut_nil rfl (HB.out.trans (hb1.mono (by simp)))

theorem rowOut_in1 {w wr w' : World} {X : Obj} {L : List Int} (hI : ∀ n ∈ L, I64 n) (hi : In1 w X wr) {e : Ending} (h : RowOut wr L e w') : ∃ a cap, e = .returned (.slice a L.length cap) ∧ IntsIn w' a L ∧ L.length ≤ cap ∧ In1 w X w' := by
  obtain ⟨v, he, hr, hb⟩ := h
  obtain ⟨a, cap, rfl, h1, h2⟩ := hr.out hI
  exact ⟨a, cap, he, h1, h2, hi.next hb⟩

set_option maxRecDepth 100000 in
set_option maxHeartbeats 1000000 in
theorem numbers_list (c : Ch) (v : Value) (most : Nat) (w : World) (l : List Int) (hN : numsOf c = .list l) (hc : ChIn w c v) (hv : validC c = true) (hm : most ≤ 1000) :
    Calls Tryz.prog 12 #[v, .int .i64 most] w fun e w' => NumOut w (firstN c most) 0 e w' := by
  have hc0 := hc
  obtain ⟨a, cap, rfl, _, _, _, _, _⟩ := hc
  obtain ⟨X, hX⟩ : ∃ X : Obj, X = .cells #[.int .i64 c.kind, .int .i64 c.dflt, .slice a c.list.length cap] 24 := ⟨_, rfl⟩
  have h1 := calls_in1 (In1.first w X) (validChoice_any c _ _ (hc0.mono (Same.alloc w X)))
  have HA := Lib.hid fun (wr : World) (hi : In1 w X wr) => (ask_list hN hc0 (valid_bound hv) wr hi.same).mono fun e w' ⟨a', cap', h1, h2, h3, h4⟩ => (⟨a', cap', h1, h2, h3, hi.next h4⟩ : ∃ a' cap', e = Ending.returned (.iface 107 (.slice a' l.length cap')) ∧ l.length ≤ 17592186044416 ∧ IntsIn w' a' l ∧ In1 w X w')
  have hI := firstN_I64 hv most
  obtain ⟨L, hL⟩ : ∃ L, firstN c most = L := ⟨_, rfl⟩
  have HH := Lib.hid fun (wr : World) (hi : In1 w X wr) (a' : Option Addr) (cap' : Nat) (h2 : IntsIn wr a' l) => ((firstOf_any c hv most hm).1 l a' cap' wr hN h2).mono fun e w' h => rowOut_in1 hI hi h
  have HC := Lib.hid fun (wr : World) (h : In1 w X wr) => In1.cells3 (hX ▸ h)
  rw [hL] at HH ⊢
  rw [hv, hX] at h1
  have hXX := Lib.hid hX
  have hm0 : (most : Int) ≤ 1000 := by omega
  clear hc0 hX hN hv hI hL hm
  go_enter Tryz.func12, Tryz.ntmps12
  go_wp2_with (first
    | (go_at_call 14; (with_reducible refine h1.mono ?_); rintro e w1 ⟨rfl, hi1⟩; rw [← hXX.out] at hi1; obtain ⟨p0, p1, p2⟩ := HC.out w1 hi1)
    | (go_at_call 52; (with_reducible refine (HA.out _ hi1).mono ?_); rintro e wk ⟨a', cap', rfl, hk1, hk2, hk⟩; have hcall := HH.out wk hk a' cap' hk2)
    | (go_at_call 53; (with_reducible refine hcall.mono ?_); rintro e wk2 ⟨a2, cap2, rfl, g1, g2, hk3⟩))
  go_ret2
  exact ⟨a2, cap2, rfl, g1, g2, hk3.out⟩

set_option maxRecDepth 100000 in
set_option maxHeartbeats 1000000 in
theorem numbers_step (c : Ch) (v : Value) (most : Nat) (w : World) (s : Sp) (hN : numsOf c = .step s) (hc : ChIn w c v) (hv : validC c = true) (hm : most ≤ 1000) :
    Calls Tryz.prog 12 #[v, .int .i64 most] w fun e w' => NumOut w (firstN c most) 0 e w' := by
  have hc0 := hc
  obtain ⟨a, cap, rfl, _, _, _, _, _⟩ := hc
  obtain ⟨X, hX⟩ : ∃ X : Obj, X = .cells #[.int .i64 c.kind, .int .i64 c.dflt, .slice a c.list.length cap] 24 := ⟨_, rfl⟩
  have h1 := calls_in1 (In1.first w X) (validChoice_any c _ _ (hc0.mono (Same.alloc w X)))
  have HA := Lib.hid fun (wr : World) (hi : In1 w X wr) => (ask_step hN hc0 (valid_bound hv) wr hi.same).mono fun e w' ⟨h1, h2, h4⟩ => (⟨h1, h2, hi.next h4⟩ : e = Ending.returned (.iface 110 s.val) ∧ s.Nice ∧ In1 w X w')
  have hI := firstN_I64 hv most
  obtain ⟨L, hL⟩ : ∃ L, firstN c most = L := ⟨_, rfl⟩
  have HH := Lib.hid fun (wr : World) (hi : In1 w X wr) => ((firstOf_any c hv most hm).2 s wr hN).mono fun e w' h => rowOut_in1 hI hi h
  have HC := Lib.hid fun (wr : World) (h : In1 w X wr) => In1.cells3 (hX ▸ h)
  rw [hL] at HH ⊢
  rw [hv, hX] at h1
  have hXX := Lib.hid hX
  have hm0 : (most : Int) ≤ 1000 := by omega
  clear hc0 hX hN hv hI hL hm
  obtain ⟨lo, hi', st⟩ := s
  unfold Sp.val at HA HH
  simp only at HA HH
  go_enter Tryz.func12, Tryz.ntmps12
  go_wp2_with (first
    | (go_at_call 14; (with_reducible refine h1.mono ?_); rintro e w1 ⟨rfl, hi1⟩; rw [← hXX.out] at hi1; obtain ⟨p0, p1, p2⟩ := HC.out w1 hi1)
    | (go_at_call 52; (with_reducible refine (HA.out _ hi1).mono ?_); rintro e wk ⟨rfl, hk1, hk⟩; have hcall := HH.out wk hk)
    | (go_at_call 53; (with_reducible refine hcall.mono ?_); rintro e wk2 ⟨a2, cap2, rfl, g1, g2, hk3⟩))
  go_ret2
  exact ⟨a2, cap2, rfl, g1, g2, hk3.out⟩

def numErr (c : Ch) (most : Int) : Int := if validC c = true then (if 0 ≤ most ∧ most ≤ 1000 then 0 else 7) else 1
def numList (c : Ch) (most : Int) : List Int := if validC c = true then (if 0 ≤ most ∧ most ≤ 1000 then firstN c most.toNat else []) else []
theorem numbers_any (c : Ch) (v : Value) (most : Int) (w : World) (hc : ChIn w c v) :
    Calls Tryz.prog 12 #[v, .int .i64 most] w fun e w' => NumOut w (numList c most) (numErr c most) e w' := by
  unfold numList numErr
  cases hv : validC c with
  | false => rw [if_neg (by simp), if_neg (by simp)]; exact numbers_bad c v most w hc hv
  | true =>
    rw [if_pos rfl, if_pos rfl]
    by_cases hm : 0 ≤ most ∧ most ≤ 1000
    · rw [if_pos hm, if_pos hm]
      have e : most = (most.toNat : Int) := by omega
      have hm' : most.toNat ≤ 1000 := by omega
      generalize most.toNat = m at e hm'
      subst e
      cases hN : numsOf c with
      | list l => exact numbers_list c v m w l hN hc hv hm'
      | step s => exact numbers_step c v m w s hN hc hv hm'
    · rw [if_neg hm, if_neg hm]
      exact numbers_range c v most w hc hv (by omega)
end Go.Proofs.YtlpdeadmiinhoaaGreatDoor
