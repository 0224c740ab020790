/- A choice read as numbers. -/
import Derived.Test.YtlpdeadmiinhoaaGreatDoorBase

/- CA: The numbers of a choice: what lists and steps hold. -/
namespace Go.Proofs.YtlpdeadmiinhoaaGreatDoor
open Go.RowKit

def FoundAt (l : List Int) (n : Int) (e : Ending) : Prop := ∃ r : Int, e = .returned (.int .i64 r) ∧ decide (0 ≤ r) = l.contains n ∧ -1 ≤ r ∧ r ≤ 17592186044416

theorem contains_at {l : List Int} {k : Nat} {x n : Int} (hk : k < l.length) (hx : Hid (l.getD k 0 = x)) (h : (n == x) = true) : l.contains n = true := by
  have h1 := hx.out
  simp only [beq_iff_eq] at h
  simp only [List.contains_eq_mem, decide_eq_true_eq]
  rw [List.mem_iff_getElem]
  refine ⟨k, hk, ?_⟩
  rw [h, ← h1]
  simp [hk]
theorem not_contains {l : List Int} {n : Int} (h : Hid (∀ j, j < l.length → (n == l.getD j 0) = false)) : l.contains n = false := by
  simp only [List.contains_eq_mem, decide_eq_false_iff_not]
  intro hm
  rw [List.mem_iff_getElem] at hm
  obtain ⟨j, hj, e⟩ := hm
  have := h.out j hj
  simp [hj, e] at this
theorem no_snoc {l : List Int} {n : Int} {k : Nat} (h : Hid (∀ j, j < k → (n == l.getD j 0) = false)) (hk : (n == l.getD k 0) = false) : ∀ j, j < k + 1 → (n == l.getD j 0) = false := fun j hj => by
  by_cases e : j = k
  · rw [e]; exact hk
  · exact h.out j (by omega)

set_option maxHeartbeats 400000 in
theorem index_any (l : List Int) (a : Option Addr) (c : Nat) (n : Int) (w : World) (hl : l.length ≤ 17592186044416) (hk : IntsIn w a l) :
    Calls Tryz.prog 140 #[.slice a l.length c, .int .i64 n] w fun e w' => FoundAt l n e ∧ w = w' := by
  go_enter Tryz.func140, Tryz.ntmps140
  go_wp2_with fail
  go_loop [8] (fun i => ∃ (k : Nat), i = .int .i64 k ∧ k ≤ l.length ∧ ∀ j, j < k → (n == l.getD j 0) = false) (fun i => l.length - (intOf i).toNat)
  case atStart => exact ⟨0, rfl, Nat.zero_le _, fun _ h => absurd h (Nat.not_lt_zero _)⟩
  case round =>
    obtain ⟨k, rfl, hkl, hok⟩ := hrel
    have Hok := Lib.hid hok
    clear hok
    by_cases hlt : k < l.length
    · obtain ⟨b, off, rfl, hc, _⟩ := hk k hlt
      obtain ⟨x, hx⟩ : ∃ x, l.getD k 0 = x := ⟨_, rfl⟩
      rw [hx] at hc
      have Hx := Lib.hid hx
      clear hx
      cases hnx : (n == x) with
      | true =>
        go_wp2_with fail
        go_ret
        refine ⟨⟨(k : Int), rfl, ?_, by omega, by omega⟩, rfl⟩
        rw [contains_at hlt Hx hnx]; simp
      | false =>
        have Hn : Hid ((n == l.getD k 0) = false) := Lib.hid (by rw [Hx.out]; exact hnx)
        go_wp2_with fail
        go_round
        case rel => exact ⟨k + 1, by go_num, by omega, no_snoc Hok Hn.out⟩
        case measure => simp [intOf]; omega
    · go_wp2_with fail
      go_ret
      refine ⟨⟨-1, rfl, ?_, by omega, by omega⟩, rfl⟩
      rw [not_contains (Lib.hid fun j hj => Hok.out j (by omega))]; rfl

set_option maxHeartbeats 400000 in
theorem index_listed (l : List Int) (a : Option Addr) (c : Nat) (n : Int) (w : World) (hl : l.length ≤ 17592186044416) (hk : IntsIn w a l) :
    Calls Tryz.prog 247 #[.slice a l.length c, .int .i64 n] w fun e w' => FoundAt l n e ∧ w = w' := by
  go_enter Tryz.func247, Tryz.ntmps247
  go_wp2_with fail
  go_loop [8] (fun i => ∃ (k : Nat), i = .int .i64 k ∧ k ≤ l.length ∧ ∀ j, j < k → (n == l.getD j 0) = false) (fun i => l.length - (intOf i).toNat)
  case atStart => exact ⟨0, rfl, Nat.zero_le _, fun _ h => absurd h (Nat.not_lt_zero _)⟩
  case round =>
    obtain ⟨k, rfl, hkl, hok⟩ := hrel
    have Hok := Lib.hid hok
    clear hok
    by_cases hlt : k < l.length
    · obtain ⟨b, off, rfl, hc, _⟩ := hk k hlt
      obtain ⟨x, hx⟩ : ∃ x, l.getD k 0 = x := ⟨_, rfl⟩
      rw [hx] at hc
      have Hx := Lib.hid hx
      clear hx
      cases hnx : (n == x) with
      | true =>
        go_wp2_with fail
        go_ret
        refine ⟨⟨(k : Int), rfl, ?_, by omega, by omega⟩, rfl⟩
        rw [contains_at hlt Hx hnx]; simp
      | false =>
        have Hn : Hid ((n == l.getD k 0) = false) := Lib.hid (by rw [Hx.out]; exact hnx)
        go_wp2_with fail
        go_round
        case rel => exact ⟨k + 1, by go_num, by omega, no_snoc Hok Hn.out⟩
        case measure => simp [intOf]; omega
    · go_wp2_with fail
      go_ret
      refine ⟨⟨-1, rfl, ?_, by omega, by omega⟩, rfl⟩
      rw [not_contains (Lib.hid fun j hj => Hok.out j (by omega))]; rfl

theorem contains_any (l : List Int) (a : Option Addr) (c : Nat) (n : Int) (w : World) (hl : l.length ≤ 17592186044416) (hk : IntsIn w a l) :
    Calls Tryz.prog 120 #[.slice a l.length c, .int .i64 n] w fun e w' => e = .returned (.bool (l.contains n)) ∧ w = w' := by
  have h := index_any l a c n w hl hk
  go_enter Tryz.func120, Tryz.ntmps120
  go_wp2_with (go_at_call 140; (with_reducible refine h.mono ?_); rintro e w' ⟨⟨r, rfl, hr, _, _⟩, rfl⟩; have Hr := Lib.hid hr; clear hr)
  go_ret
  exact ⟨ret_bool Hr.out, rfl⟩
theorem contains_listed (l : List Int) (a : Option Addr) (c : Nat) (n : Int) (w : World) (hl : l.length ≤ 17592186044416) (hk : IntsIn w a l) :
    Calls Tryz.prog 246 #[.slice a l.length c, .int .i64 n] w fun e w' => e = .returned (.bool (l.contains n)) ∧ w = w' := by
  have h := index_listed l a c n w hl hk
  go_enter Tryz.func246, Tryz.ntmps246
  go_wp2_with (go_at_call 247; (with_reducible refine h.mono ?_); rintro e w' ⟨⟨r, rfl, hr, _, _⟩, rfl⟩; have Hr := Lib.hid hr; clear hr)
  go_ret
  exact ⟨ret_bool Hr.out, rfl⟩
theorem listed_has (l : List Int) (a : Option Addr) (c : Nat) (n : Int) (w : World) (hl : l.length ≤ 17592186044416) (hk : IntsIn w a l) :
    Calls Tryz.prog 245 #[.slice a l.length c, .int .i64 n] w fun e w' => e = .returned (.bool (l.contains n)) ∧ w = w' := by
  have h := contains_listed l a c n w hl hk
  obtain ⟨B, hB⟩ : ∃ B, l.contains n = B := ⟨_, rfl⟩
  rw [hB] at h ⊢
  clear hB
  go_enter Tryz.func245, Tryz.ntmps245
  go_wp2_with (go_at_call 246; (with_reducible refine h.mono ?_); rintro e w' ⟨rfl, rfl⟩)
  go_ret
  exact ⟨rfl, rfl⟩
theorem listed_count (l : List Int) (a : Option Addr) (c : Nat) (w : World) :
    Calls Tryz.prog 244 #[.slice a l.length c] w fun e w' => e = .returned (.int .i64 l.length) ∧ w = w' := by
  go_enter Tryz.func244, Tryz.ntmps244
  go_wp2_with fail
  go_ret
  exact ⟨rfl, rfl⟩
theorem listed_at (l : List Int) (a : Option Addr) (c : Nat) (i : Nat) (w : World) (hi : i < l.length) (hk : IntsIn w a l) :
    Calls Tryz.prog 243 #[.slice a l.length c, .int .i64 i] w fun e w' => e = .returned (.int .i64 (l.getD i 0)) ∧ w = w' := by
  obtain ⟨b, off, rfl, hc, _⟩ := hk i hi
  obtain ⟨x, hx⟩ : ∃ x, l.getD i 0 = x := ⟨_, rfl⟩
  rw [hx] at hc ⊢
  clear hx
  go_enter Tryz.func243, Tryz.ntmps243
  go_wp2_with fail
  go_ret
  exact ⟨rfl, rfl⟩

def Sp.Nice (s : Sp) : Prop := 0 ≤ s.lo ∧ s.lo ≤ 1000000000 ∧ 0 ≤ s.hi ∧ s.hi ≤ 1000000000 ∧ 1 ≤ s.st ∧ s.st ≤ 1000000
def Sp.val (s : Sp) : Value := .agg #[.int .i64 s.lo, .int .i64 s.hi, .int .i64 s.st]

theorem stepped_at (s : Sp) (i : Nat) (w : World) (hs : s.Nice) (hi : s.lo + (i : Int) * s.st ≤ 1000000000) :
    Calls Tryz.prog 248 #[s.val, .int .i64 i] w fun e w' => e = .returned (.int .i64 (s.lo + (i : Int) * s.st)) ∧ Below w.heap.size w w' := by
  obtain ⟨lo, hi', st⟩ := s
  obtain ⟨h1, h2, h3, h4, h5, h6⟩ := hs
  simp only at h1 h2 h3 h4 h5 h6 hi
  have hm : 0 ≤ (i : Int) * st := Int.mul_nonneg (by omega) (by omega)
  unfold Sp.val
  have w1 : IntKind.i64.wrap ((i : Int) * st) = (i : Int) * st := IntWalk.i64_in _ (by omega)
  go_enter Tryz.func248, Tryz.ntmps248
  go_wp2_with fail
  go_ret
  exact ⟨ret_int (by first | rfl | (simp [w1]; done)), (Below.refl _ _).alloc (Nat.le_refl _) _⟩

theorem stepped_count (s : Sp) (w : World) (hs : s.Nice) (hle : s.lo ≤ s.hi) :
    Calls Tryz.prog 167 #[s.val] w fun e w' => e = .returned (.int .i64 s.count) ∧ Below w.heap.size w w' := by
  obtain ⟨lo, hi', st⟩ := s
  obtain ⟨h1, h2, h3, h4, h5, h6⟩ := hs
  simp only at h1 h2 h3 h4 h5 h6 hle
  have hst : ¬ st = 0 := by omega
  have hd0 : 0 ≤ (hi' - lo) / st := Int.ediv_nonneg (by omega) (by omega)
  have hd1 : (hi' - lo) / st ≤ 1000000000 := by
    have := Int.ediv_le_self st (show 0 ≤ hi' - lo by omega)
    omega
  unfold Sp.val Sp.count
  go_enter Tryz.func167, Tryz.ntmps167
  go_wp2_with fail
  go_ret
  exact ⟨rfl, (Below.refl _ _).alloc (Nat.le_refl _) _⟩

theorem sp_no1 {lo hi st n : Int} (h : ¬ lo ≤ n) : (Sp.mk lo hi st).has n = false := by unfold Sp.has; simp; omega
theorem sp_no2 {lo hi st n : Int} (h : ¬ n ≤ hi) : (Sp.mk lo hi st).has n = false := by unfold Sp.has; simp; omega
theorem sp_yes {lo hi st n : Int} (h : lo ≤ n) (h' : n ≤ hi) : (Sp.mk lo hi st).has n = ((n - lo) % st == 0) := by unfold Sp.has; simp [h, h']; rfl

set_option maxHeartbeats 400000 in
theorem stepped_has (s : Sp) (n : Int) (w : World) (hs : s.Nice) :
    Calls Tryz.prog 190 #[s.val, .int .i64 n] w fun e w' => e = .returned (.bool (s.has n)) ∧ Below w.heap.size w w' := by
  obtain ⟨lo, hi', st⟩ := s
  obtain ⟨h1, h2, h3, h4, h5, h6⟩ := hs
  simp only at h1 h2 h3 h4 h5 h6
  have hst : ¬ st = 0 := by omega
  unfold Sp.val
  by_cases g1 : lo ≤ n
  · by_cases g2 : n ≤ hi'
    · have e := sp_yes (st := st) g1 g2
      rw [e]
      clear e
      go_enter Tryz.func190, Tryz.ntmps190
      go_wp2_with fail
      go_ret
      exact ⟨rfl, (Below.refl _ _).alloc (Nat.le_refl _) _⟩
    · have e := sp_no2 (lo := lo) (st := st) g2
      rw [e]
      clear e
      go_enter Tryz.func190, Tryz.ntmps190
      go_wp2_with fail
      go_ret
      exact ⟨rfl, (Below.refl _ _).alloc (Nat.le_refl _) _⟩
  · have e := sp_no1 (hi := hi') (st := st) g1
    rw [e]
    clear e
    go_enter Tryz.func190, Tryz.ntmps190
    go_wp2_with fail
    go_ret
    exact ⟨rfl, (Below.refl _ _).alloc (Nat.le_refl _) _⟩
end Go.Proofs.YtlpdeadmiinhoaaGreatDoor

/- CB: numbersOf: the numbers of a choice behind an interface. -/
namespace Go.Proofs.YtlpdeadmiinhoaaGreatDoor
open Go.RowKit

inductive Nums where
  | list (l : List Int)
  | step (s : Sp)
def Nums.has : Nums → Int → Bool
  | .list l, n => l.contains n
  | .step s, n => s.has n
def NumsIn (w : World) : Nums → Value → Prop
  | .list l, v => ∃ a cap, v = .iface 107 (.slice a l.length cap) ∧ l.length ≤ 17592186044416 ∧ IntsIn w a l
  | .step s, v => v = .iface 110 s.val ∧ s.Nice
theorem NumsIn.mono {w w' : World} (h : Same w w') : ∀ {n : Nums} {v : Value}, NumsIn w n v → NumsIn w' n v
  | .list _, _, ⟨a, cap, h1, h2, h3⟩ => ⟨a, cap, h1, h2, h3.mono h⟩
  | .step _, _, h' => h'

theorem m_listed_has (a : Option Addr) (n c : Nat) (w : World) : (method 357 107 (.slice a n c) "continuo/format.has").run Tryz.prog w = .ok (245, .slice a n c) w := by kernel_rfl
theorem m_listed_at (a : Option Addr) (n c : Nat) (w : World) : (method 357 107 (.slice a n c) "continuo/format.at").run Tryz.prog w = .ok (243, .slice a n c) w := by kernel_rfl
theorem m_listed_count (a : Option Addr) (n c : Nat) (w : World) : (method 357 107 (.slice a n c) "continuo/format.count").run Tryz.prog w = .ok (244, .slice a n c) w := by kernel_rfl
theorem m_stepped_has (x y z : Int) (w : World) : (method 357 110 (.agg #[.int .i64 x, .int .i64 y, .int .i64 z]) "continuo/format.has").run Tryz.prog w = .ok (190, .agg #[.int .i64 x, .int .i64 y, .int .i64 z]) w := by kernel_rfl
theorem m_stepped_at (x y z : Int) (w : World) : (method 357 110 (.agg #[.int .i64 x, .int .i64 y, .int .i64 z]) "continuo/format.at").run Tryz.prog w = .ok (248, .agg #[.int .i64 x, .int .i64 y, .int .i64 z]) w := by kernel_rfl
theorem m_stepped_count (x y z : Int) (w : World) : (method 357 110 (.agg #[.int .i64 x, .int .i64 y, .int .i64 z]) "continuo/format.count").run Tryz.prog w = .ok (167, .agg #[.int .i64 x, .int .i64 y, .int .i64 z]) w := by kernel_rfl

def wishL (l : List Int) (x y : Int) : Int := if l.contains x = true then x else if l.contains y = true then y else l.getD 0 0
def wishS (s : Sp) (x y : Int) : Int := if s.has x = true then x else if s.has y = true then y else s.lo

set_option maxRecDepth 100000 in
theorem wish_list (l : List Int) (a : Option Addr) (cap : Nat) (x y : Int) (w : World) (hl : 1 ≤ l.length) (hl' : l.length ≤ 17592186044416) (hin : IntsIn w a l) :
    Calls Tryz.prog 94 #[.iface 107 (.slice a l.length cap), .int .i64 x, .int .i64 y] w fun e w' => e = .returned (.int .i64 (wishL l x y)) ∧ w = w' := by
  have c1 := listed_has l a cap x w hl' hin
  have c2 := listed_has l a cap y w hl' hin
  have c3 := listed_at l a cap 0 w (by omega) hin
  have hm := m_listed_has
  have hm2 := m_listed_at
  obtain ⟨n, hn⟩ : ∃ n, l.length = n := ⟨_, rfl⟩
  obtain ⟨z, hz⟩ : ∃ z, l.getD 0 0 = z := ⟨_, rfl⟩
  obtain ⟨B, hB⟩ : ∃ B, l.contains x = B := ⟨_, rfl⟩
  obtain ⟨C, hC⟩ : ∃ C, l.contains y = C := ⟨_, rfl⟩
  have e : wishL l x y = if B = true then x else if C = true then y else z := by unfold wishL; rw [hB, hC, hz]
  rw [hn] at c1 c2 c3 ⊢
  rw [hB] at c1
  rw [hC] at c2
  rw [hz, show ((0 : Nat) : Int) = 0 from rfl] at c3
  rw [e]
  clear hn hz hB hC e hin hl hl'
  cases B with
  | true =>
    go_enter Tryz.func94, Tryz.ntmps94
    go_wp2_with (first
      | (go_at_call 245; (with_reducible refine c1.mono ?_); rintro e w' ⟨rfl, rfl⟩))
    go_ret
    exact ⟨rfl, rfl⟩
  | false =>
    cases C with
    | true =>
      go_enter Tryz.func94, Tryz.ntmps94
      go_wp2_with (first
        | (go_at_call 245; (with_reducible refine c1.mono ?_); rintro e w' ⟨rfl, rfl⟩)
        | (go_at_call 245; (with_reducible refine c2.mono ?_); rintro e w' ⟨rfl, rfl⟩))
      go_ret
      exact ⟨rfl, rfl⟩
    | false =>
      go_enter Tryz.func94, Tryz.ntmps94
      go_wp2_with (first
        | (go_at_call 245; (with_reducible refine c1.mono ?_); rintro e w' ⟨rfl, rfl⟩)
        | (go_at_call 245; (with_reducible refine c2.mono ?_); rintro e w' ⟨rfl, rfl⟩)
        | (go_at_call 243; (with_reducible refine c3.mono ?_); rintro e w' ⟨rfl, rfl⟩))
      go_ret
      exact ⟨rfl, rfl⟩

theorem wish_step (s : Sp) (x y : Int) (w : World) (hs : s.Nice) :
    Calls Tryz.prog 94 #[.iface 110 s.val, .int .i64 x, .int .i64 y] w fun e w' => e = .returned (.int .i64 (wishS s x y)) ∧ Below w.heap.size w w' := by
  have c1 := stepped_has s x w hs
  have c2 := fun w => stepped_has s y w hs
  have c3 := fun w => stepped_at s 0 w hs (by have := hs.2.1; omega)
  have hm := m_stepped_has
  have hm2 := m_stepped_at
  have e0 : s.lo + ((0 : Nat) : Int) * s.st = s.lo := by omega
  obtain ⟨B, hB⟩ : ∃ B, s.has x = B := ⟨_, rfl⟩
  obtain ⟨C, hC⟩ : ∃ C, s.has y = C := ⟨_, rfl⟩
  have e : wishS s x y = if B = true then x else if C = true then y else s.lo := by unfold wishS; rw [hB, hC]
  rw [hB] at c1
  rw [hC] at c2
  simp only [e0, show ((0 : Nat) : Int) = 0 from rfl] at c3
  rw [e]
  clear hs hB hC e e0
  obtain ⟨lo, hi, st⟩ := s
  unfold Sp.val at c1 c2 c3 ⊢
  simp only at c1 c2 c3 ⊢
  cases B with
  | true =>
    go_enter Tryz.func94, Tryz.ntmps94
    go_wp2_with (first
      | (go_at_call 190; (with_reducible refine c1.mono ?_); rintro e w1 ⟨rfl, hb1⟩))
    go_ret
    exact ⟨rfl, hb1⟩
  | false =>
    cases C with
    | true =>
      go_enter Tryz.func94, Tryz.ntmps94
      go_wp2_with (first
        | (go_at_call 190; (with_reducible refine c1.mono ?_); rintro e w1 ⟨rfl, hb1⟩)
        | (go_at_call 190; (with_reducible refine (c2 w1).mono ?_); rintro e w2 ⟨rfl, hb2⟩))
      go_ret
      exact ⟨rfl, hb1.trans (hb2.mono hb1.size)⟩
    | false =>
      go_enter Tryz.func94, Tryz.ntmps94
      go_wp2_with (first
        | (go_at_call 190; (with_reducible refine c1.mono ?_); rintro e w1 ⟨rfl, hb1⟩)
        | (go_at_call 190; (with_reducible refine (c2 w1).mono ?_); rintro e w2 ⟨rfl, hb2⟩)
        | (go_at_call 248; (with_reducible refine (c3 w2).mono ?_); rintro e w3 ⟨rfl, hb3⟩))
      go_ret
      exact ⟨rfl, (hb1.trans (hb2.mono hb1.size)).trans (hb3.mono (Nat.le_trans hb1.size hb2.size))⟩
end Go.Proofs.YtlpdeadmiinhoaaGreatDoor

/- CC: numbersOf, and what it asks. -/
namespace Go.Proofs.YtlpdeadmiinhoaaGreatDoor
open Go.RowKit

theorem contains_take (l : List Int) (k : Nat) (hkl : k ≤ l.length) (a : Option Addr) (c : Nat) (n : Int) (w : World) (hl : l.length ≤ 17592186044416) (hk : IntsIn w a l) :
    Calls Tryz.prog 120 #[.slice a k c, .int .i64 n] w fun e w' => e = .returned (.bool ((l.take k).contains n)) ∧ w = w' := by
  have hlen : (l.take k).length = k := by rw [List.length_take]; omega
  have h := contains_any (l.take k) a c n w (by omega) (fun i hi => by
    obtain ⟨b, off, ha, hc, hb⟩ := hk i (by omega)
    have e : (l.take k).getD i 0 = l.getD i 0 := by simp [List.getD, show i < k by omega]
    exact ⟨b, off, ha, by rw [e]; exact hc, by rw [e]; exact hb⟩)
  rw [hlen] at h
  exact h

set_option maxHeartbeats 400000 in
theorem allDifferent_any (l : List Int) (a : Option Addr) (c : Nat) (w : World) (hl : l.length ≤ 17592186044416) (hk : IntsIn w a l) (hcap : l.length ≤ c) :
    Calls Tryz.prog 91 #[.slice a l.length c] w fun e w' => e = .returned (.bool (distinctB l)) ∧ w = w' := by
  go_enter Tryz.func91, Tryz.ntmps91
  go_wp2_with fail
  go_loop [7] (fun i => ∃ (k : Nat), i = .int .i64 k ∧ k ≤ l.length ∧ ∀ j, j < k → freshAt l j = true) (fun i => l.length - (intOf i).toNat)
  case atStart => exact ⟨0, rfl, Nat.zero_le _, fun _ h => absurd h (Nat.not_lt_zero _)⟩
  case round =>
    obtain ⟨k, rfl, hkl, hok⟩ := hrel
    have Hok := Lib.hid hok
    clear hok
    by_cases hlt : k < l.length
    · obtain ⟨b, off, rfl, hc, _⟩ := hk k hlt
      obtain ⟨x, hx⟩ : ∃ x, l.getD k 0 = x := ⟨_, rfl⟩
      have hcall := contains_take l k (by omega) (some ⟨b, off, none⟩) c x w hl hk
      obtain ⟨B, hB⟩ : ∃ B, (l.take k).contains x = B := ⟨_, rfl⟩
      have HF : Hid (freshAt l k = !B) := Lib.hid (by unfold freshAt; rw [hx, hB])
      rw [hB] at hcall
      rw [hx] at hc
      clear hx hB
      cases B with
      | true =>
        go_wp2_with (go_at_call 120; (with_reducible refine hcall.mono ?_); rintro e w' ⟨rfl, rfl⟩)
        go_ret
        exact ⟨ret_bool (all_no hlt HF.out).symm, rfl⟩
      | false =>
        go_wp2_with (go_at_call 120; (with_reducible refine hcall.mono ?_); rintro e w' ⟨rfl, rfl⟩)
        go_round
        case rel => exact ⟨k + 1, by go_num, by omega, ok_snoc Hok HF.out⟩
        case measure => simp [intOf]; omega
    · go_wp2_with fail
      go_ret
      exact ⟨ret_bool (all_yes fun j hj => Hok.out j (by omega)).symm, rfl⟩

def stepsOf (l : List Int) : Sp := ⟨l.getD 0 0, l.getD 1 0, if 2 < l.length then l.getD 2 0 else 1⟩

theorem steps_two (l : List Int) (a : Option Addr) (c : Nat) (w : World) (hl : l.length ≤ 17592186044416) (hk : IntsIn w a l) (h2 : l.length = 2) :
    Calls Tryz.prog 92 #[.slice a l.length c] w fun e w' => e = .returned (stepsOf l).val ∧ Below w.heap.size w w' := by
  obtain ⟨b, off, rfl, c0, _⟩ := hk 0 (by omega)
  obtain ⟨b', off', hbo, c1, _⟩ := hk 1 (by omega)
  cases hbo
  obtain ⟨x, hx⟩ : ∃ x, l.getD 0 0 = x := ⟨_, rfl⟩
  obtain ⟨y, hy⟩ : ∃ y, l.getD 1 0 = y := ⟨_, rfl⟩
  have e : (stepsOf l).val = .agg #[.int .i64 x, .int .i64 y, .int .i64 1] := by unfold stepsOf Sp.val; simp only [hx, hy]; rw [if_neg (by omega)]
  rw [e, h2]
  rw [hx] at c0
  rw [hy] at c1
  simp only [Nat.add_zero] at c0
  have e0 := (Same.alloc w (.cells #[.int .i64 0, .int .i64 0, .int .i64 0] 110)).cell c0
  have e1 := (Same.alloc w (.cells #[.int .i64 0, .int .i64 0, .int .i64 0] 110)).cell c1
  have d0 := (Same.alloc (w.alloc (.cells #[.int .i64 0, .int .i64 0, .int .i64 0] 110)) (.cells #[.int .i64 0, .int .i64 0, .int .i64 0] 110)).cell e0
  have d1 := (Same.alloc (w.alloc (.cells #[.int .i64 0, .int .i64 0, .int .i64 0] 110)) (.cells #[.int .i64 0, .int .i64 0, .int .i64 0] 110)).cell e1
  clear hx hy e hk h2 hl
  go_enter Tryz.func92, Tryz.ntmps92
  go_wp2
  go_region
  go_wp2
  exact bodyPost_ret (v := .agg #[.int .i64 x, .int .i64 y, .int .i64 1]) (by simp [results, Tryz.results92, go_sem]) rfl ⟨rfl, (((Below.refl _ _).alloc (Nat.le_refl _) _).alloc (by simp) _).drew⟩

theorem steps_three (l : List Int) (a : Option Addr) (c : Nat) (w : World) (hl : l.length ≤ 17592186044416) (hk : IntsIn w a l) (h2 : l.length = 3) :
    Calls Tryz.prog 92 #[.slice a l.length c] w fun e w' => e = .returned (stepsOf l).val ∧ Below w.heap.size w w' := by
  obtain ⟨b, off, rfl, c0, _⟩ := hk 0 (by omega)
  obtain ⟨b', off', hbo, c1, _⟩ := hk 1 (by omega)
  cases hbo
  obtain ⟨b', off', hbo, c2, _⟩ := hk 2 (by omega)
  cases hbo
  obtain ⟨x, hx⟩ : ∃ x, l.getD 0 0 = x := ⟨_, rfl⟩
  obtain ⟨y, hy⟩ : ∃ y, l.getD 1 0 = y := ⟨_, rfl⟩
  obtain ⟨z, hz⟩ : ∃ z, l.getD 2 0 = z := ⟨_, rfl⟩
  have e : (stepsOf l).val = .agg #[.int .i64 x, .int .i64 y, .int .i64 z] := by unfold stepsOf Sp.val; simp only [hx, hy, hz]; rw [if_pos (by omega)]
  rw [e, h2]
  rw [hx] at c0
  rw [hy] at c1
  rw [hz] at c2
  simp only [Nat.add_zero] at c0
  have e0 := (Same.alloc w (.cells #[.int .i64 0, .int .i64 0, .int .i64 0] 110)).cell c0
  have e1 := (Same.alloc w (.cells #[.int .i64 0, .int .i64 0, .int .i64 0] 110)).cell c1
  have d0 := (Same.alloc (w.alloc (.cells #[.int .i64 0, .int .i64 0, .int .i64 0] 110)) (.cells #[.int .i64 0, .int .i64 0, .int .i64 0] 110)).cell e0
  have d1 := (Same.alloc (w.alloc (.cells #[.int .i64 0, .int .i64 0, .int .i64 0] 110)) (.cells #[.int .i64 0, .int .i64 0, .int .i64 0] 110)).cell e1
  have f2 := (Same.alloc (w.alloc (.cells #[.int .i64 0, .int .i64 0, .int .i64 0] 110)) (.cells #[.int .i64 x, .int .i64 y, .int .i64 1] 110)).cell ((Same.alloc w (.cells #[.int .i64 0, .int .i64 0, .int .i64 0] 110)).cell c2)
  clear hx hy hz e hk h2 hl
  go_enter Tryz.func92, Tryz.ntmps92
  go_wp2
  go_region
  go_wp2
  exact bodyPost_ret (v := .agg #[.int .i64 x, .int .i64 y, .int .i64 z]) (by simp [results, Tryz.results92, go_sem]) rfl ⟨rfl, (((Below.refl _ _).alloc (Nat.le_refl _) _).alloc (by simp) _).drew⟩
end Go.Proofs.YtlpdeadmiinhoaaGreatDoor

/- CD: numbersOf, walked. -/
namespace Go.Proofs.YtlpdeadmiinhoaaGreatDoor
open Go.RowKit

def numsOf (c : Ch) : Nums :=
  if c.kind = 1 ∧ c.list.length = 1 then .list c.list
  else if c.kind = 2 ∧ c.list.length ≤ 20 ∧ distinctB c.list = true then .list c.list
  else if c.kind = 3 ∧ c.list.length = 2 then .step (stepsOf c.list)
  else if c.kind = 4 ∧ c.list.length = 3 ∧ 1 ≤ c.list.getD 2 0 ∧ c.list.getD 2 0 ≤ 1000 then .step (stepsOf c.list)
  else .list []

def NumsOut (w : World) (n : Nums) (e : Ending) (w' : World) : Prop := ∃ x, e = .returned x ∧ NumsIn w' n x ∧ Below w.heap.size w w'

theorem nums_list {w w' : World} {l : List Int} {a : Option Addr} {n cap : Nat} (hn : Hid (l.length = n)) (hl : n ≤ 17592186044416) (hin : IntsIn w a l) (hb : Below w.heap.size w w') {e : Ending} (he : e = .returned (.iface 107 (.slice a n cap))) : NumsOut w (.list l) e w' :=
  ⟨_, he, ⟨a, cap, by rw [hn.out], by rw [hn.out]; exact hl, hin.mono (Same.of_below hb)⟩, hb⟩
theorem nums_nil {w w' : World} (hb : Below w.heap.size w w') {e : Ending} (he : e = .returned (.iface 107 (.slice none 0 0))) : NumsOut w (.list []) e w' :=
  ⟨_, he, ⟨none, 0, rfl, by simp, IntsIn.nil _ _⟩, hb⟩
theorem nums_step {w w' : World} {s : Sp} (hs : s.Nice) (hb : Below w.heap.size w w') {e : Ending} (he : e = .returned (.iface 110 s.val)) : NumsOut w (.step s) e w' := ⟨_, he, ⟨rfl, hs⟩, hb⟩

theorem stepsOf_nice {c : Ch} (hb : boundB c.list = true) (h2 : 2 ≤ c.list.length) (h3 : 2 < c.list.length → 1 ≤ c.list.getD 2 0 ∧ c.list.getD 2 0 ≤ 1000) : (stepsOf c.list).Nice := by
  have a0 := boundB_at hb 0 (by omega)
  have a1 := boundB_at hb 1 (by omega)
  have hst : 1 ≤ (stepsOf c.list).st ∧ (stepsOf c.list).st ≤ 1000 := by
    show 1 ≤ (if 2 < c.list.length then c.list.getD 2 0 else 1) ∧ (if 2 < c.list.length then c.list.getD 2 0 else 1) ≤ 1000
    by_cases h : 2 < c.list.length
    · rw [if_pos h]; exact h3 h
    · rw [if_neg h]; omega
  exact ⟨a0.1, a0.2, a1.1, a1.2, hst.1, by omega⟩

set_option maxRecDepth 100000 in
set_option maxHeartbeats 1000000 in
theorem numbersOf_any (c : Ch) (v : Value) (w : World) (hc : ChIn w c v) (hbd : boundB c.list = true) :
    Calls Tryz.prog 52 #[v] w fun e w' => NumsOut w (numsOf c) e w' := by
  obtain ⟨a, cap, rfl, hk1, hd1, hl, hin, hcap⟩ := hc
  have hnice := fun h2 h3 => stepsOf_nice (c := c) hbd h2 h3
  obtain ⟨kd, d, l⟩ := c
  simp only at hl hin hcap hnice ⊢
  have hnum : numsOf ⟨kd, d, l⟩ = if kd = 1 ∧ l.length = 1 then .list l
    else if kd = 2 ∧ l.length ≤ 20 ∧ distinctB l = true then .list l
    else if kd = 3 ∧ l.length = 2 then .step (stepsOf l)
    else if kd = 4 ∧ l.length = 3 ∧ 1 ≤ l.getD 2 0 ∧ l.getD 2 0 ≤ 1000 then .step (stepsOf l)
    else .list [] := rfl
  rw [hnum]
  clear hnum
  have cDiff := fun w1 h => allDifferent_any l a cap w1 hl h hcap
  have cTwo := fun w1 h => steps_two l a cap w1 hl h
  have cThree := fun w1 h => steps_three l a cap w1 hl h
  obtain ⟨n, hn⟩ : ∃ n, l.length = n := ⟨_, rfl⟩
  have Hn := Lib.hid hn
  rw [hn] at hl hcap cDiff cTwo cThree ⊢
  have Hin := Lib.hid hin
  have Hnice := Lib.hid hnice
  clear hn hin hnice hbd hcap
  have HB : Hid (Below w.heap.size w (w.alloc (.cells #[.int .i64 kd, .int .i64 d, .slice a n cap] 24))) := Lib.hid ((Below.refl _ _).alloc (Nat.le_refl _) _)
  have HS : Hid (Same w (w.alloc (.cells #[.int .i64 kd, .int .i64 d, .slice a n cap] 24))) := Lib.hid (Same.alloc _ _)
  by_cases k1 : kd = 1
  · subst k1
    by_cases n1 : n = 1
    · rw [if_pos ⟨rfl, n1⟩]
      have g1 : ((n : Int) == 1) = true := by simp [n1]
      have Hn1 := Lib.hid n1
      clear n1 cDiff cTwo cThree
      go_enter Tryz.func52, Tryz.ntmps52
      go_wp2
      go_ret
      exact nums_list Hn hl Hin.out HB.out rfl
    · rw [if_neg (fun h => n1 h.2), if_neg (fun h => by omega), if_neg (fun h => by omega), if_neg (fun h => by omega)]
      have g1 : ((n : Int) == 1) = false := by simp; omega
      clear n1 cDiff cTwo cThree
      go_enter Tryz.func52, Tryz.ntmps52
      go_wp2
      go_ret
      exact nums_nil HB.out rfl
  rw [if_neg (fun h => k1 h.1)]
  have e1 : (kd == 1) = false := by simpa using k1
  by_cases k2 : kd = 2
  · subst k2
    by_cases n20 : n ≤ 20
    · have g20 : (n : Int) ≤ 20 := by omega
      obtain ⟨B, hB⟩ : ∃ B, distinctB l = B := ⟨_, rfl⟩
      rw [hB] at cDiff ⊢
      clear hB
      have cD := cDiff _ (Hin.out.mono HS.out)
      cases B with
      | true =>
        rw [if_pos ⟨rfl, n20, rfl⟩]
        clear n20 cDiff cTwo cThree k1
        go_enter Tryz.func52, Tryz.ntmps52
        go_wp2_with (go_at_call 91; (with_reducible refine cD.mono ?_); rintro e w' ⟨rfl, rfl⟩)
        go_ret
        exact nums_list Hn hl Hin.out HB.out rfl
      | false =>
        rw [if_neg (fun h => by simp at h), if_neg (fun h => by omega), if_neg (fun h => by omega)]
        clear n20 cDiff cTwo cThree k1
        go_enter Tryz.func52, Tryz.ntmps52
        go_wp2_with (go_at_call 91; (with_reducible refine cD.mono ?_); rintro e w' ⟨rfl, rfl⟩)
        go_ret
        exact nums_nil HB.out rfl
    · rw [if_neg (fun h => n20 h.2.1), if_neg (fun h => by omega), if_neg (fun h => by omega)]
      have g20 : ¬ (n : Int) ≤ 20 := by omega
      clear n20 cDiff cTwo cThree k1
      go_enter Tryz.func52, Tryz.ntmps52
      go_wp2
      go_ret
      exact nums_nil HB.out rfl
  rw [if_neg (fun h => k2 h.1)]
  have e2 : (kd == 2) = false := by simpa using k2
  by_cases k3 : kd = 3
  · subst k3
    by_cases n2 : n = 2
    · rw [if_pos ⟨rfl, n2⟩]
      have g1 : ((n : Int) == 2) = true := by simp [n2]
      have cT := cTwo _ (Hin.out.mono HS.out) n2
      have hs := Lib.hid (Hnice.out (by rw [Hn.out]; omega) (by rw [Hn.out]; omega))
      clear n2 cDiff cTwo cThree k1 k2
      unfold Sp.val at cT
      go_enter Tryz.func52, Tryz.ntmps52
      go_wp2_with (go_at_call 92; (with_reducible refine cT.mono ?_); rintro e w1 ⟨rfl, hb1⟩)
      go_ret
      exact nums_step hs.out (HB.out.trans (hb1.mono (by simp))) rfl
    · rw [if_neg (fun h => n2 h.2), if_neg (fun h => by omega)]
      have g1 : ((n : Int) == 2) = false := by simp; omega
      clear n2 cDiff cTwo cThree k1 k2
      go_enter Tryz.func52, Tryz.ntmps52
      go_wp2
      go_ret
      exact nums_nil HB.out rfl
  rw [if_neg (fun h => k3 h.1)]
  have e3 : (kd == 3) = false := by simpa using k3
  by_cases k4 : kd = 4
  · subst k4
    by_cases n3 : n = 3
    · have g1 : ((n : Int) == 3) = true := by simp [n3]
      have cT := cThree _ (Hin.out.mono HS.out) n3
      obtain ⟨b, off, rfl, hcell, _⟩ := Hin.out 2 (by rw [Hn.out]; omega)
      have hcell2 := HS.out.cell hcell
      have hlt : (2 : Int) < (n : Int) := by omega
      obtain ⟨z, hz⟩ : ∃ z, l.getD 2 0 = z := ⟨_, rfl⟩
      rw [hz] at Hnice hcell hcell2 ⊢
      clear hz hcell
      unfold Sp.val at cT
      by_cases z1 : 1 ≤ z
      · by_cases z2 : z ≤ 1000
        · rw [if_pos ⟨rfl, n3, z1, z2⟩]
          have hs := Lib.hid (Hnice.out (by rw [Hn.out]; omega) (fun _ => ⟨z1, z2⟩))
          clear n3 cDiff cTwo cThree k1 k2 k3
          go_enter Tryz.func52, Tryz.ntmps52
          go_wp2_with (go_at_call 92; (with_reducible refine cT.mono ?_); rintro e w1 ⟨rfl, hb1⟩)
          go_ret
          exact nums_step hs.out (HB.out.trans (hb1.mono (by simp))) rfl
        · rw [if_neg (fun h => z2 h.2.2.2)]
          clear n3 cDiff cTwo cThree cT k1 k2 k3
          go_enter Tryz.func52, Tryz.ntmps52
          go_wp2
          go_ret
          exact nums_nil HB.out rfl
      · rw [if_neg (fun h => z1 h.2.2.1)]
        clear n3 cDiff cTwo cThree cT k1 k2 k3
        go_enter Tryz.func52, Tryz.ntmps52
        go_wp2
        go_ret
        exact nums_nil HB.out rfl
    · rw [if_neg (fun h => n3 h.2.1)]
      have g1 : ((n : Int) == 3) = false := by simp; omega
      clear n3 cDiff cTwo cThree k1 k2 k3
      go_enter Tryz.func52, Tryz.ntmps52
      go_wp2
      go_ret
      exact nums_nil HB.out rfl
  · rw [if_neg (fun h => k4 h.1)]
    have e4 : (kd == 4) = false := by simpa using k4
    clear cDiff cTwo cThree k1 k2 k3 k4
    go_enter Tryz.func52, Tryz.ntmps52
    go_wp2
    go_ret
    exact nums_nil HB.out rfl
end Go.Proofs.YtlpdeadmiinhoaaGreatDoor
