/- begin, at, end of a side; room, seen, looked. -/
import Derived.Test.YtgcohmlapgnbdaaRA
namespace Go.Proofs.Ytgcohmlapgnbdaa
open Go.RowKit Go.Shelf Go.Deep

set_option maxRecDepth 100000
theorem begin_neg (p : Addr) (n t : Int) (w : World) (h : n < 0) : Calls Try.prog 52 #[.pointer (some p), .int .i64 n, .int .i64 t] w fun e w' => e = .panicked (misfit 7) ∧ w' = w := by
  have hm := must_no 7 w
  have h0 : ¬ 0 ≤ n := by omega
  clear h
  go_enter Try.func52, Try.ntmps52
  go_wp2_with (go_at_call 38; (with_reducible refine hm.mono ?_); rintro e w1 ⟨rfl, rfl⟩)
  exact ⟨rfl, rfl, rfl⟩
theorem begin_held (P o : Nat) (n t : Int) (w : World) (h : 0 ≤ n) (k2 : w.cell? ⟨P, o + 2, none⟩ = some (.bool true)) : Calls Try.prog 52 #[.pointer (some ⟨P, o, none⟩), .int .i64 n, .int .i64 t] w fun e w' => e = .panicked (misfit 9) ∧ w' = w := by
  have hm := must_yes 7 w
  have hm2 := must_no 9 w
  go_enter Try.func52, Try.ntmps52
  go_wp2_with (first | (go_at_call 38; (with_reducible refine hm.mono ?_); rintro e w1 ⟨rfl, rfl⟩) | (go_at_call 38; (with_reducible refine hm2.mono ?_); rintro e w1 ⟨rfl, rfl⟩))
  exact ⟨rfl, rfl, rfl⟩
theorem begin_yes (P o : Nat) (n t m : Int) (w : World) (h : 0 ≤ n) (k2 : w.cell? ⟨P, o + 2, none⟩ = some (.bool false)) (k3 : w.cell? ⟨P, o + 3, none⟩ = some (.int .i64 m)) (hz : ∀ k, w.frozen? ⟨P, k, none⟩ = false) :
    Calls Try.prog 52 #[.pointer (some ⟨P, o, none⟩), .int .i64 n, .int .i64 t] w fun e w' => e = .returned (.int .i64 (min n t)) ∧ w' = (w.setCell ⟨P, o + 2, none⟩ (.bool true)).setCell ⟨P, o + 3, none⟩ (.int .i64 (min n t)) := by
  have hm := must_yes 7 w
  have hm2 := must_yes 9 w
  have z2 := hz (o + 2)
  have z3 := hz (o + 3)
  clear hz
  go_enter Try.func52, Try.ntmps52
  go_wp2_with (first | (go_at_call 38; (with_reducible refine hm.mono ?_); rintro e w1 ⟨rfl, rfl⟩) | (go_at_call 38; (with_reducible refine hm2.mono ?_); rintro e w1 ⟨rfl, rfl⟩))
  go_ret
  exact ⟨rfl, rfl⟩

/-- Which error at and end leave with. -/
def atK (i : Int) (h : Bool) (m : Int) : Int := if i < 0 then 7 else if h = false then 9 else if i < m then 0 else 7
def endK (i : Int) (h : Bool) (m : Int) : Int := if i < 0 then 7 else if h = false then 9 else if i ≤ m then 0 else 7
theorem at_no (P o : Nat) (i m : Int) (h : Bool) (w : World) (hk : atK i h m ≠ 0) (k2 : w.cell? ⟨P, o + 2, none⟩ = some (.bool h)) (k3 : w.cell? ⟨P, o + 3, none⟩ = some (.int .i64 m)) :
    Calls Try.prog 95 #[.pointer (some ⟨P, o, none⟩), .int .i64 i] w fun e w' => e = .panicked (misfit (atK i h m)) ∧ w' = w := by
  have hm := must_yes 7 w
  have hn := must_no 7 w
  have hm2 := must_yes 9 w
  have hn2 := must_no 9 w
  by_cases h0 : i < 0
  · rw [show atK i h m = 7 by simp [atK, h0]]
    have h1 : ¬ 0 ≤ i := by omega
    clear hk
    go_enter Try.func95, Try.ntmps95
    go_wp2_with (go_at_call 38; (with_reducible refine hn.mono ?_); rintro e w1 ⟨rfl, rfl⟩)
    exact ⟨rfl, rfl, rfl⟩
  · have h1 : 0 ≤ i := by omega
    cases h with
    | false =>
      rw [show atK i false m = 9 by simp [atK, h0]]
      clear hk
      go_enter Try.func95, Try.ntmps95
      go_wp2_with (first | (go_at_call 38; (with_reducible refine hm.mono ?_); rintro e w1 ⟨rfl, rfl⟩) | (go_at_call 38; (with_reducible refine hn2.mono ?_); rintro e w1 ⟨rfl, rfl⟩))
      exact ⟨rfl, rfl, rfl⟩
    | true =>
      have h2 : ¬ i < m := fun h => hk (by simp [atK, h0, h])
      rw [show atK i true m = 7 by simp [atK, h0, h2]]
      have h3 : decide (i < m) = false := decide_eq_false h2
      clear hk
      go_enter Try.func95, Try.ntmps95
      go_wp2_with (first | (go_at_call 38; (with_reducible refine hm.mono ?_); rintro e w1 ⟨rfl, rfl⟩) | (go_at_call 38; (with_reducible refine hm2.mono ?_); rintro e w1 ⟨rfl, rfl⟩) | (go_at_call 38; (with_reducible refine hn.mono ?_); rintro e w1 ⟨rfl, rfl⟩))
      exact ⟨rfl, rfl, rfl⟩
theorem wrap16 (n : Int) : IntKind.u16.wrap n = n % 65536 := by simp [IntKind.wrap, IntKind.bits, IntKind.signed]
theorem atK_yes {i m : Int} {h : Bool} (hk : atK i h m = 0) : 0 ≤ i ∧ h = true ∧ i < m := by
  unfold atK at hk
  split at hk
  · omega
  · split at hk
    · omega
    · split at hk
      · exact ⟨by omega, by simpa using ‹¬h = false›, by assumption⟩
      · omega
theorem endK_yes {i m : Int} {h : Bool} (hk : endK i h m = 0) : 0 ≤ i ∧ h = true ∧ i ≤ m := by
  unfold endK at hk
  split at hk
  · omega
  · split at hk
    · omega
    · split at hk
      · exact ⟨by omega, by simpa using ‹¬h = false›, by assumption⟩
      · omega
theorem at_yes (P o : Nat) (i m c : Int) (h : Bool) (w : World) (hk : atK i h m = 0) (k0 : w.cell? ⟨P, o, none⟩ = some (.int .u16 c)) (k2 : w.cell? ⟨P, o + 2, none⟩ = some (.bool h)) (k3 : w.cell? ⟨P, o + 3, none⟩ = some (.int .i64 m)) :
    Calls Try.prog 95 #[.pointer (some ⟨P, o, none⟩), .int .i64 i] w fun e w' => e = .returned (.int .u16 ((c + i) % 65536)) ∧ w' = w := by
  have hm := must_yes 7 w
  have hm2 := must_yes 9 w
  obtain ⟨h0, rfl, h2⟩ := atK_yes hk
  clear hk
  go_enter Try.func95, Try.ntmps95
  go_wp2_with (first | (go_at_call 38; (with_reducible refine hm.mono ?_); rintro e w1 ⟨rfl, rfl⟩) | (go_at_call 38; (with_reducible refine hm2.mono ?_); rintro e w1 ⟨rfl, rfl⟩))
  go_ret
  refine ⟨ret_int ?_, rfl⟩
  simp only [wrap16]
  omega
theorem end_no (P o : Nat) (i m : Int) (h : Bool) (w : World) (hk : endK i h m ≠ 0) (k2 : w.cell? ⟨P, o + 2, none⟩ = some (.bool h)) (k3 : w.cell? ⟨P, o + 3, none⟩ = some (.int .i64 m)) :
    Calls Try.prog 49 #[.pointer (some ⟨P, o, none⟩), .int .i64 i] w fun e w' => e = .panicked (misfit (endK i h m)) ∧ w' = w := by
  have hm := must_yes 7 w
  have hn := must_no 7 w
  have hm2 := must_yes 9 w
  have hn2 := must_no 9 w
  by_cases h0 : i < 0
  · rw [show endK i h m = 7 by simp [endK, h0]]
    have h1 : ¬ 0 ≤ i := by omega
    clear hk
    go_enter Try.func49, Try.ntmps49
    go_wp2_with (go_at_call 38; (with_reducible refine hn.mono ?_); rintro e w1 ⟨rfl, rfl⟩)
    exact ⟨rfl, rfl, rfl⟩
  · have h1 : 0 ≤ i := by omega
    cases h with
    | false =>
      rw [show endK i false m = 9 by simp [endK, h0]]
      clear hk
      go_enter Try.func49, Try.ntmps49
      go_wp2_with (first | (go_at_call 38; (with_reducible refine hm.mono ?_); rintro e w1 ⟨rfl, rfl⟩) | (go_at_call 38; (with_reducible refine hn2.mono ?_); rintro e w1 ⟨rfl, rfl⟩))
      exact ⟨rfl, rfl, rfl⟩
    | true =>
      have h2 : ¬ i ≤ m := fun h => hk (by simp [endK, h0, h])
      rw [show endK i true m = 7 by simp [endK, h0, h2]]
      have h3 : decide (i ≤ m) = false := decide_eq_false h2
      clear hk
      go_enter Try.func49, Try.ntmps49
      go_wp2_with (first | (go_at_call 38; (with_reducible refine hm.mono ?_); rintro e w1 ⟨rfl, rfl⟩) | (go_at_call 38; (with_reducible refine hm2.mono ?_); rintro e w1 ⟨rfl, rfl⟩) | (go_at_call 38; (with_reducible refine hn.mono ?_); rintro e w1 ⟨rfl, rfl⟩))
      exact ⟨rfl, rfl, rfl⟩
theorem end_yes (P o : Nat) (i m c : Int) (h : Bool) (w : World) (hk : endK i h m = 0) (k0 : w.cell? ⟨P, o, none⟩ = some (.int .u16 c)) (k2 : w.cell? ⟨P, o + 2, none⟩ = some (.bool h)) (k3 : w.cell? ⟨P, o + 3, none⟩ = some (.int .i64 m)) (hz : ∀ k, w.frozen? ⟨P, k, none⟩ = false) :
    Calls Try.prog 49 #[.pointer (some ⟨P, o, none⟩), .int .i64 i] w fun e w' => e = .returned (.tuple #[]) ∧ w' = ((w.setCell ⟨P, o, none⟩ (.int .u16 ((c + i) % 65536))).setCell ⟨P, o + 2, none⟩ (.bool false)).setCell ⟨P, o + 3, none⟩ (.int .i64 0) := by
  have hm := must_yes 7 w
  have hm2 := must_yes 9 w
  obtain ⟨h0, rfl, h2⟩ := endK_yes hk
  have hwr : IntKind.u16.wrap (c + IntKind.u16.wrap i) = (c + i) % 65536 := by simp only [wrap16]; omega
  have HW := Lib.hid hwr
  have z0 := hz o
  have z2 := hz (o + 2)
  have z3 := hz (o + 3)
  clear hz hk hwr
  go_enter Try.func49, Try.ntmps49
  go_wp2_with (first | (go_at_call 38; (with_reducible refine hm.mono ?_); rintro e w1 ⟨rfl, rfl⟩) | (go_at_call 38; (with_reducible refine hm2.mono ?_); rintro e w1 ⟨rfl, rfl⟩))
  go_end0
  refine ⟨rfl, ?_⟩
  rw [HW.out]
theorem room114_any (P o : Nat) (c v : Int) (t : Int) (w : World) (k0 : w.cell? ⟨P, o, none⟩ = some (.int .u16 c)) (k1 : w.cell? ⟨P, o + 1, none⟩ = some (.int .u16 v)) (ht : 0 ≤ t ∧ t ≤ 1024) :
    Calls Try.prog 114 #[.pointer (some ⟨P, o, none⟩), .int .i64 t] w fun e w' => e = .returned (.int .i64 (t - aheadI c v)) ∧ ∃ m, w' = w.drewN m := by
  have HA : Hid (∀ x, Calls Try.prog 75 #[.int .u16 c, .int .u16 v] x fun e w' => e = .returned (.int .i64 (aheadI c v)) ∧ w' = x) := Lib.hid fun x => (ahead_any c v x).mono fun e w' ⟨h1, h2⟩ => ⟨h1, h2.symm⟩
  obtain ⟨b1, b2⟩ := ahead_bd c v
  generalize aheadI c v = A at *
  go_enter Try.func114, Try.ntmps114
  go_wp2_with fail
  go_quiet ((go_at_call 75; with_reducible exact Calls.quiet_of_same (HA.out _)))
  go_wp2_with fail
  go_ret
  exact ⟨rfl, _, rfl⟩
theorem filled89_any (P o : Nat) (c v : Int) (w : World) (k0 : w.cell? ⟨P, o, none⟩ = some (.int .u16 c)) (k1 : w.cell? ⟨P, o + 1, none⟩ = some (.int .u16 v)) :
    Calls Try.prog 89 #[.pointer (some ⟨P, o, none⟩)] w fun e w' => e = .returned (.int .i64 (aheadI v c)) ∧ ∃ m, w' = w.drewN m := by
  have HA : Hid (∀ x, Calls Try.prog 75 #[.int .u16 v, .int .u16 c] x fun e w' => e = .returned (.int .i64 (aheadI v c)) ∧ w' = x) := Lib.hid fun x => (ahead_any v c x).mono fun e w' ⟨h1, h2⟩ => ⟨h1, h2.symm⟩
  generalize aheadI v c = A at *
  go_enter Try.func89, Try.ntmps89
  go_wp2_with fail
  go_quiet ((go_at_call 75; with_reducible exact Calls.quiet_of_same (HA.out _)))
  go_wp2_with fail
  go_ret
  exact ⟨rfl, _, rfl⟩
end Go.Proofs.Ytgcohmlapgnbdaa
namespace Go.Proofs.Ytgcohmlapgnbdaa
open Go.RowKit Go.Shelf Go.Deep

set_option maxRecDepth 100000
def Rg.room (g : Rg) : Int := g.sz - aheadI g.wc g.wv
def Rg.filled (g : Rg) : Int := aheadI g.rv g.rc
def Rg.seen (g : Rg) : Rg := { g with wv := g.rc }
def Rg.looked (g : Rg) : Rg := { g with rv := g.wc }
theorem RingAt.see {P R : Nat} {g : Rg} {w : World} (h : RingAt P R g w) : RingAt P R g.seen (w.setCell ⟨P, 4, none⟩ (.int .u16 g.rc)) :=
  h.put g.seen 4 _ rfl rfl rfl rfl (by decide) fun j hj hne => by
    match j with
    | 0 => rfl | 1 => rfl | 2 => rfl | 3 => rfl | 4 => exact absurd rfl hne | 5 => rfl | 6 => rfl | 7 => rfl | 8 => rfl | 9 => rfl | j + 10 => rfl
theorem RingAt.look {P R : Nat} {g : Rg} {w : World} (h : RingAt P R g w) : RingAt P R g.looked (w.setCell ⟨P, 8, none⟩ (.int .u16 g.wc)) :=
  h.put g.looked 8 _ rfl rfl rfl rfl (by decide) fun j hj hne => by
    match j with
    | 0 => rfl | 1 => rfl | 2 => rfl | 3 => rfl | 4 => rfl | 5 => rfl | 6 => rfl | 7 => rfl | 8 => exact absurd rfl hne | 9 => rfl | j + 10 => rfl
theorem room_any (P R : Nat) (g : Rg) (w : World) (h : RingAt P R g w) (hs : g.sz ≤ 1024) : Calls Try.prog 84 #[.pointer (some ⟨P, 0, none⟩)] w fun e w' => e = .returned (.int .i64 g.room) ∧ ∃ m, w' = w.drewN m := by
  have k0 : w.cell? ⟨P, 0, none⟩ = some (.int .i64 g.sz) := h.c (k := 0) (by decide) (by decide)
  have H : Hid (∀ x n, x = w.drewN n → Calls Try.prog 114 #[.pointer (some ⟨P, 3, none⟩), .int .i64 g.sz] x fun e w' => e = .returned (.int .i64 g.room) ∧ ∃ m, w' = x.drewN m) := Lib.hid fun x n hx => by
    have hr := h.below (w' := x) (by rw [hx]; exact below_drewN (Below.refl _ _) _)
    exact room114_any P 3 g.wc g.wv g.sz x (hr.c (k := 3) (by decide) (by decide)) (hr.c (k := 4) (by decide) (by decide)) (by omega)
  have h114 := H.out w.drew 1 rfl
  generalize g.room = A at *
  clear h
  go_enter Try.func84, Try.ntmps84
  go_wp2_with fail
  go_still_tail 7, (by kernel_rfl)
  go_wp2_with (go_at_call 114; (with_reducible refine h114.mono ?_); rintro e w1 ⟨rfl, m, rfl⟩)
  go_ret
  refine ⟨rfl, 1 + m, ?_⟩
  rfl
end Go.Proofs.Ytgcohmlapgnbdaa
