import Derived.Test.YtfbeeaibejggdaaDoorB7
import Derived.Test.YtfbeeaibejggdaaDoorC2
namespace Go.Proofs.YtfbeeaibejggdaaDoor
open Go.RowKit Go.Shelf

theorem padded_any (n : Nat) (w : World) (h : n ≤ 1000000) : Calls Tryd.prog 60 #[.int .i64 n] w fun e w' => e = .returned (.int .i64 (((n : Int) + 7) / 8 * 8)) ∧ w = w' := by
  have h1 : 0 ≤ ((n : Int) + 7) / 8 := by omega
  have h2 : ((n : Int) + 7) / 8 * 8 ≤ 2000000 := by omega
  have h3 : 0 ≤ (n : Int) + 7 := by omega
  have h4 : ((n : Int) + 7) / 8 ≤ 2000000 := by omega
  go_enter Tryd.func60, Tryd.ntmps60
  go_wp2_with fail
  go_ret
  exact ⟨rfl, rfl⟩

/-- What a value has as written without its kids. -/
def ownT (t : T) : Int :=
  if t.kind == 2 || t.kind == 3 || t.kind == 9 then 16 else if t.kind == 4 || t.kind == 5 then 8 + ((t.s.size : Int) + 7) / 8 * 8
  else if t.kind == 8 then 16 + 8 * (t.keys.length : Int) else if t.kind == 10 then 8 + 8 * (t.keys.length : Int) else 8

set_option maxHeartbeats 1000000 in
theorem ownSize_any (t : T) (v : Value) (w : World) (hr : Rep w t v) (hs : t.s.size ≤ 1000000) (hk : t.keys.length ≤ 1000000) :
    Calls Tryd.prog 64 #[v] w fun e w' => e = .returned (.int .i64 (ownT t)) ∧ Below w.heap.size w w' := by
  obtain ⟨kd, n, s, keys, kids⟩ := t
  obtain ⟨ka, va, kc, vc, rfl, _, _, _, hkl, hvl, hkeys, hkids⟩ := rep_mk hr
  simp only [T.s, T.keys] at hs hk
  have hs' : (s.size : Int) ≤ 1000000 := by omega
  have hk' : (keys.length : Int) ≤ 1000000 := by omega
  have hp0 : 0 ≤ ((s.size : Int) + 7) / 8 * 8 := by omega
  have hp1 : ((s.size : Int) + 7) / 8 * 8 ≤ 2000000 := by omega
  have hO : ∀ x, ownT (.mk kd n s keys kids) = x → Ending.returned (Value.int .i64 (ownT (.mk kd n s keys kids))) = .returned (.int .i64 x) := fun x h => by rw [h]
  have HO := Lib.hid hO
  clear hO
  go_enter Tryd.func64, Tryd.ntmps64
  go_wp2_with (go_at_call 60; refine (padded_any s.size _ hs).mono ?_; rintro e w1 ⟨rfl, rfl⟩)
  all_goals
    go_ret
    refine ⟨(HO.out _ ?_).symm, (Below.refl _ _).alloc (Nat.le_refl _) _⟩
    clear HO
    simp [ownT, T.kind, T.s, T.keys, *]
end Go.Proofs.YtfbeeaibejggdaaDoor
