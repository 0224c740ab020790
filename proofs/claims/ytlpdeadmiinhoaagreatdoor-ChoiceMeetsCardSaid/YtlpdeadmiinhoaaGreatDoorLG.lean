/- The law on two choices: long lists; all ways joined. -/
import Derived.Test.YtlpdeadmiinhoaaGreatDoorLB
import Derived.Test.YtlpdeadmiinhoaaGreatDoorLC
import Derived.Test.YtlpdeadmiinhoaaGreatDoorLD
import Derived.Test.YtlpdeadmiinhoaaGreatDoorLE0
import Derived.Test.YtlpdeadmiinhoaaGreatDoorLE1
import Derived.Test.YtlpdeadmiinhoaaGreatDoorLF0
import Derived.Test.YtlpdeadmiinhoaaGreatDoorLF1
namespace Go.Proofs.YtlpdeadmiinhoaaGreatDoor
open Go.RowKit

set_option maxRecDepth 100000 in
set_option maxHeartbeats 1600000 in
theorem law_dark (x y : Ch) (vx vy : Value) (n most : Int) (w : World) (hx : ChIn w x vx) (hy : ChIn w y vy) (hl : 60 < x.list.length ∨ 60 < y.list.length)
    (hAw : ∀ wr, Below w.heap.size w wr → Calls Tryz.prog 9 #[] wr fun e w' => e = .returned (.bool true) ∧ Below wr.heap.size wr w') :
    Calls Tryz.prog 3 #[vx, vy, .int .i64 n, .int .i64 most] w fun e w' => e = .returned (.bool true) ∧ Below w.heap.size w w' := by
  obtain ⟨a, ca, rfl, _, _, _, _, _⟩ := hx
  obtain ⟨b, cb, rfl, _, _, _, _, _⟩ := hy
  obtain ⟨X, hX⟩ : ∃ X : Obj, X = .cells #[.int .i64 x.kind, .int .i64 x.dflt, .slice a x.list.length ca] 24 := ⟨_, rfl⟩
  obtain ⟨Y, hY⟩ : ∃ Y : Obj, Y = .cells #[.int .i64 y.kind, .int .i64 y.dflt, .slice b y.list.length cb] 24 := ⟨_, rfl⟩
  have HF : In2 w X Y ((w.alloc (.cells #[.int .i64 x.kind, .int .i64 x.dflt, .slice a x.list.length ca] 24)).alloc (.cells #[.int .i64 y.kind, .int .i64 y.dflt, .slice b y.list.length cb] 24)) := hX ▸ hY ▸ In2.first w X Y
  have HC := Lib.hid fun (wr : World) (h : In2 w X Y wr) => In2.cells (hX ▸ hY ▸ h)
  have H9 := Lib.hid fun (wr : World) (hi : In2 w X Y wr) => calls_in2 hi (hAw wr hi.out)
  have HFF := Lib.hid HF
  obtain ⟨⟨p0, p1, p2⟩, q0, q1, q2⟩ := HC.out _ HF
  clear hX hY HF hAw
  by_cases h1 : 60 < x.list.length
  · have g1 : 60 < (x.list.length : Int) := by omega
    clear hl
    go_enter Tryz.func3, Tryz.ntmps3
    go_wp2_with (go_at_call 9; (with_reducible refine (H9.out _ HFF.out).mono ?_); rintro e w1 ⟨rfl, hi1⟩)
    go_ret
    exact ⟨rfl, hi1.out⟩
  · have g1 : ¬ 60 < (x.list.length : Int) := by omega
    have g2 : 60 < (y.list.length : Int) := by omega
    clear hl
    go_enter Tryz.func3, Tryz.ntmps3
    go_wp2_with (go_at_call 9; (with_reducible refine (H9.out _ HFF.out).mono ?_); rintro e w1 ⟨rfl, hi1⟩)
    go_ret
    exact ⟨rfl, hi1.out⟩

theorem meetE_zero {x y : Ch} (h : ¬ meetE x y = 1) : validC x = true ∧ validC y = true := by
  unfold meetE at h
  cases h1 : validC x <;> cases h2 : validC y <;> simp [h1, h2] at h ⊢
theorem meet_ok {x y : Ch} (hx : validC x = true) (hy : validC y = true) : meetE x y = 0 ∧ meetO x y = metC x y := by
  unfold meetE meetO; simp [hx, hy]
theorem some_of {α : Type} {o : Option α} {z : α} (h : o.isSome = true) : o = some (o.getD z) := by
  cases o with
  | none => cases h
  | some a => rfl

/-- The law holds of whatever two choices. -/
theorem law_any (x y : Ch) (vx vy : Value) (n most : Int) (w : World) (hx : ChIn w x vx) (hy : ChIn w y vy)
    (hAw : ∀ wr, Below w.heap.size w wr → Calls Tryz.prog 9 #[] wr fun e w' => e = .returned (.bool true) ∧ Below wr.heap.size wr w') :
    Calls Tryz.prog 3 #[vx, vy, .int .i64 n, .int .i64 most] w fun e w' => e = .returned (.bool true) ∧ Below w.heap.size w w' := by
  by_cases hl : 60 < x.list.length ∨ 60 < y.list.length
  · exact law_dark x y vx vy n most w hx hy hl hAw
  have hlx : x.list.length ≤ 60 := by omega
  have hly : y.list.length ≤ 60 := by omega
  by_cases hE : meetE x y = 1
  · exact law_bad x y vx vy n most w hx hy hlx hly hAw hE
  obtain ⟨vx1, vy1⟩ := meetE_zero hE
  obtain ⟨e1, o1⟩ := meet_ok vx1 vy1
  obtain ⟨e2, o2⟩ := meet_ok vy1 vx1
  have hcomm := met_comm vx1 vy1
  cases hm : (meetO x y).isSome with
  | false => exact law_none x y vx vy n most w hx hy hlx hly hAw e1 e2 hm (by rw [o2, ← hcomm, ← o1]; exact hm)
  | true =>
    have hm2 : (meetO y x).isSome = true := by rw [o2, ← hcomm, ← o1]; exact hm
    have hD : metC x y = some ((meetO x y).getD zCh) := by rw [← o1]; exact some_of hm
    have hD2 : metC y x = some ((meetO y x).getD zCh) := by rw [← o2]; exact some_of hm2
    have hvD := met_valid vx1 vy1 hD
    have hvD2 := met_valid vy1 vx1 hD2
    by_cases hcut : ((meetO x y).getD zCh).kind = 2 ∧ ((meetO x y).getD zCh).list.length = 20
    · exact law_cut x y vx vy n most w hx hy hlx hly hAw e1 e2 hm hm2 vx1 vy1 hvD hvD2 hcut.1 hcut.2
    have hh := met_has vx1 vy1 hD hcut n
    cases hn : x.has n with
    | false =>
      rw [hn, Bool.false_and] at hh
      by_cases hk : ((meetO x y).getD zCh).kind = 2
      · exact law_no1 x y vx vy n most w hx hy hlx hly hAw e1 e2 hm hm2 vx1 vy1 hvD hvD2 hk (fun h => hcut ⟨hk, h⟩) hn hh
      · exact law_no0 x y vx vy n most w hx hy hlx hly hAw e1 e2 hm hm2 vx1 vy1 hvD hvD2 hk hn hh
    | true =>
      rw [hn, Bool.true_and] at hh
      by_cases hk : ((meetO x y).getD zCh).kind = 2
      · exact law_yes1 x y vx vy n most w hx hy hlx hly hAw e1 e2 hm hm2 vx1 vy1 hvD hvD2 hk (fun h => hcut ⟨hk, h⟩) _ hn rfl hh
      · exact law_yes0 x y vx vy n most w hx hy hlx hly hAw e1 e2 hm hm2 vx1 vy1 hvD hvD2 hk _ hn rfl hh
end Go.Proofs.YtlpdeadmiinhoaaGreatDoor
