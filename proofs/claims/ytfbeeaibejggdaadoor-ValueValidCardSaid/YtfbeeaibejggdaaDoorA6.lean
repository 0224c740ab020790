import Derived.Test.YtfbeeaibejggdaaDoorA5
namespace Go.Proofs.YtfbeeaibejggdaaDoor
open Go.RowKit

mutual
def countT : T → Nat
  | .mk _ _ _ _ kids => 1 + countL kids
def countL : List T → Nat
  | [] => 0
  | t :: r => countT t + countL r
end
mutual
def deepT : T → Nat
  | .mk _ _ _ _ kids => deepL kids + 1
def deepL : List T → Nat
  | [] => 0
  | t :: r => max (deepT t) (deepL r)
end
theorem countL_append : ∀ (a b : List T), countL (a ++ b) = countL a + countL b
  | [], b => by simp [countL]
  | t :: r, b => by simp only [List.cons_append, countL]; rw [countL_append r b]; omega
theorem deepL_append : ∀ (a b : List T), deepL (a ++ b) = max (deepL a) (deepL b)
  | [], b => by simp [deepL]
  | t :: r, b => by simp only [List.cons_append, deepL]; rw [deepL_append r b]; omega
theorem countL_one (t : T) : countL [t] = countT t := by simp [countL]
theorem deepL_one (t : T) : deepL [t] = deepT t := by simp [deepL]
theorem countL_take (l : List T) (k : Nat) (h : k < l.length) : countL (l.take (k + 1)) = countL (l.take k) + countT l[k] := by rw [take_next l k h, countL_append, countL_one]
theorem deepL_take (l : List T) (k : Nat) (h : k < l.length) : deepL (l.take (k + 1)) = max (deepL (l.take k)) (deepT l[k]) := by rw [take_next l k h, deepL_append, deepL_one]
theorem countL_le (l : List T) (k : Nat) : countL (l.take k) ≤ countL l := by
  have := countL_append (l.take k) (l.drop k)
  rw [List.take_append_drop] at this; omega
theorem deepL_le (l : List T) (k : Nat) : deepL (l.take k) ≤ deepL l := by
  have := deepL_append (l.take k) (l.drop k)
  rw [List.take_append_drop] at this; omega

set_option maxHeartbeats 1000000 in
theorem counted_all (N : Nat) : ∀ (t : T) (v : Value) (w : World), SizeOf.sizeOf t ≤ N → Rep w t v → countT t ≤ 1000000 →
    Calls Tryd.prog 38 #[v] w fun e w' => e = .returned (.int .i64 (countT t)) ∧ Below w.heap.size w w' := by
  induction N with
  | zero => intro t; cases t; intro _ _ h; simp at h
  | succ N ih =>
    rintro ⟨kd, n, s, keys, kids⟩ v w hN hr hc
    obtain ⟨ka, va, kc, vc, rfl, _, _, hs, hkl, hvl, _, hkids⟩ := rep_mk hr
    rw [countT] at hc
    go_enter Tryd.func38, Tryd.ntmps38
    go_wp2_with fail
    go_loopw [3, 4] (fun l i wr => ∃ (k : Nat), i = .int .i64 k ∧ k ≤ kids.length ∧ l = .int .i64 (1 + countL (kids.take k) : Nat) ∧ Below (w.heap.size + 1) (w.alloc (.cells #[.int .i64 kd, .int .i64 n, .string s, .slice ka keys.length kc, .slice va kids.length vc] 25)) wr) (fun _ i _ => kids.length - (intOf i).toNat)
    case atStart => exact ⟨0, rfl, Nat.zero_le _, by simp [countL], Below.refl _ _⟩
    case round =>
      obtain ⟨k, rfl, hk, rfl, hb⟩ := hrel
      obtain ⟨x0, x1, x2, x3, x4⟩ := box_at hb
      have hle := countL_le kids k
      by_cases hlt : k < kids.length
      · obtain ⟨b, off, v0, v1, v2, v3, v4, rfl, g0, g1, g2, g3, g4, hrk⟩ := KidsIn.at kids 0 k hlt (KidsIn.mono (Same.of_box hb) _ _ _ hkids)
        simp only [Nat.zero_add] at g0 g1 g2 g3 g4
        have hsz := kid_size hN hlt
        have hn := countL_take kids k hlt
        have hle2 := countL_le kids (k + 1)
        have hkc : countT kids[k] ≤ 1000000 := by omega
        have hsum : ((1 + countL (kids.take k) : Nat) : Int) + (countT kids[k] : Int) ≤ 1000000 := by omega
        have hv : Hid (((1 + countL (kids.take k) : Nat) : Int) + (countT kids[k] : Int) = ((1 + countL (kids.take (k + 1)) : Nat) : Int)) := Lib.hid (by omega)
        clear hn hle2
        go_wp2_with (go_at_call 38; refine (ih _ _ _ hsz hrk hkc).mono ?_; rintro e w1 ⟨rfl, hb1⟩)
        go_roundw
        case rel => exact ⟨k + 1, by go_num, by omega, by rw [← hv.out]; simp, box_next hb hb1⟩
        case measure => simp [intOf]; omega
      · go_wp2_with fail
        go_ret
        refine ⟨?_, box_out hb⟩
        rw [countT, take_end _ _ hk hlt]; rfl

theorem counted_any (t : T) (v : Value) (w : World) (hr : Rep w t v) (hc : countT t ≤ 1000000) :
    Calls Tryd.prog 38 #[v] w fun e w' => e = .returned (.int .i64 (countT t)) ∧ Below w.heap.size w w' := counted_all _ t v w (Nat.le_refl _) hr hc

set_option maxHeartbeats 1000000 in
theorem deep_all (N : Nat) : ∀ (t : T) (v : Value) (w : World), SizeOf.sizeOf t ≤ N → Rep w t v → deepT t ≤ 1000000 →
    Calls Tryd.prog 40 #[v] w fun e w' => e = .returned (.int .i64 (deepT t)) ∧ Below w.heap.size w w' := by
  induction N with
  | zero => intro t; cases t; intro _ _ h; simp at h
  | succ N ih =>
    rintro ⟨kd, n, s, keys, kids⟩ v w hN hr hc
    obtain ⟨ka, va, kc, vc, rfl, _, _, hs, hkl, hvl, _, hkids⟩ := rep_mk hr
    rw [deepT] at hc
    go_enter Tryd.func40, Tryd.ntmps40
    go_wp2_with fail
    go_loopw [3, 4] (fun l i wr => ∃ (k : Nat), i = .int .i64 k ∧ k ≤ kids.length ∧ l = .int .i64 (deepL (kids.take k) : Nat) ∧ Below (w.heap.size + 1) (w.alloc (.cells #[.int .i64 kd, .int .i64 n, .string s, .slice ka keys.length kc, .slice va kids.length vc] 25)) wr) (fun _ i _ => kids.length - (intOf i).toNat)
    case atStart => exact ⟨0, rfl, Nat.zero_le _, by simp [deepL], Below.refl _ _⟩
    case round =>
      obtain ⟨k, rfl, hk, rfl, hb⟩ := hrel
      obtain ⟨x0, x1, x2, x3, x4⟩ := box_at hb
      have hle := deepL_le kids k
      by_cases hlt : k < kids.length
      · obtain ⟨b, off, v0, v1, v2, v3, v4, rfl, g0, g1, g2, g3, g4, hrk⟩ := KidsIn.at kids 0 k hlt (KidsIn.mono (Same.of_box hb) _ _ _ hkids)
        simp only [Nat.zero_add] at g0 g1 g2 g3 g4
        have hsz := kid_size hN hlt
        have hn := deepL_take kids k hlt
        have hle2 := deepL_le kids (k + 1)
        have hkc : deepT kids[k] ≤ 1000000 := by omega
        have Hn := Lib.hid hn
        clear hn hle2
        go_wp2_with (go_at_call 40; refine (ih _ _ _ hsz hrk hkc).mono ?_; rintro e w1 ⟨rfl, hb1⟩)
        go_roundw
        case rel => exact ⟨k + 1, by go_num, by omega, by rw [Hn.out]; congr 1; split <;> omega, box_next hb hb1⟩
        case measure => simp [intOf]; omega
      · go_wp2_with fail
        go_ret
        refine ⟨?_, box_out hb⟩
        rw [deepT, take_end _ _ hk hlt]; rfl

theorem deep_any (t : T) (v : Value) (w : World) (hr : Rep w t v) (hc : deepT t ≤ 1000000) :
    Calls Tryd.prog 40 #[v] w fun e w' => e = .returned (.int .i64 (deepT t)) ∧ Below w.heap.size w w' := deep_all _ t v w (Nat.le_refl _) hr hc
end Go.Proofs.YtfbeeaibejggdaaDoor
