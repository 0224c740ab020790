/- A matrix made normal, whatever it is; what is small; sums of rows. -/
import Derived.Test.YtpjmiiejmkgmdaaIC
import Derived.Test.YtpjmiiejmkgmdaaHC
namespace Go.Proofs.Ytpjmiiejmkgmdaa
open Go.RowKit Go.Deep Go.Shelf

set_option maxHeartbeats 2000000 in
set_option maxRecDepth 100000 in
theorem normal1_no (m : List (List Int)) (va : Value) (Bm : Nat) (w : World) (ha : MatIn w m va) (hcm : w.cell? ⟨Bm, 0, none⟩ = some va) (hvm : validM m = false) :
    Calls Try.prog 59 #[.pointer (some ⟨Bm, 0, none⟩)] w (Leaves96 1 w) := by
  have h55 := matrixOf_no m va w ha hvm
  obtain ⟨a, ca, rfl, _, _, _⟩ := ha
  clear hvm
  go_enter Try.func59, Try.ntmps59
  go_wp2_with (go_at_call 55; (with_reducible refine h55.mono ?_); rintro e w1 ⟨rfl, hb⟩)
  exact ⟨rfl, rfl, hb⟩
set_option maxHeartbeats 2000000 in
set_option maxRecDepth 100000 in
/-- A matrix made normal, whatever it is. -/
theorem normalM_yes (m : List (List Int)) (va : Value) (w : World) (ha : MatIn w m va) (hvm : validM m = true) : Calls Try.prog 28 #[va] w (MatAns w (normalM m) 0) := by
  have hmf : ∀ (fn : Fn) (first cap : Array Value) (w : World), (Instr.makeFunc fn first cap).run Try.prog w = .ok (.func fn first cap) w := fun _ _ _ _ => rfl
  obtain ⟨a, ca, rfl, hin, _, _⟩ := id ha
  obtain ⟨X, hX⟩ : ∃ X, Obj.cells #[.slice a m.length ca] 24 = X := ⟨_, rfl⟩
  have hS3 : ∀ Z, Same w ((w.alloc X).alloc Z) := fun Z => (Same.alloc w X).trans (by simp) (Same.alloc _ Z)
  have hbel : Below w.heap.size w (w.alloc X) := (Below.refl _ w).alloc (Nat.le_refl _) _
  have cm : ∀ Z, ((w.alloc X).alloc Z).cell? ⟨w.heap.size, 0, none⟩ = some (.slice a m.length ca) := fun Z => by
    refine (Same.alloc _ Z).cell ?_; rw [← hX]; simp [go_sem]
  have hcf := fun (cs : Array Value) (w : World) => enters_of Try.func59 (by kernel_rfl) rfl cs w
  have h41 := fitted41_ok 59 #[.pointer (some ⟨w.heap.size, 0, none⟩)] (w.alloc X) (fun u w => MatIn w (normalM m) u) (fun u w1 w2 hs hu => hu.mono hs) (hcf _)
    (normal1_ok m _ _ _ (ha.mono (hS3 _)) (cm _) hvm)
  subst hX
  have HBL := Lib.hid hbel
  clear hvm hin ha hS3 hbel cm hcf
  go_enter Try.func28, Try.ntmps28
  go_wp2_with (go_at_call 41; (with_reducible refine h41.mono ?_); rintro e w1 ⟨u, rfl, hu, hb1⟩; have HU := Lib.hid hu; clear hu)
  go_ret2
  exact ⟨_, rfl, HU.out, HBL.out.trans (hb1.mono HBL.out.size)⟩
set_option maxHeartbeats 2000000 in
set_option maxRecDepth 100000 in
theorem normalM_no (m : List (List Int)) (va : Value) (w : World) (ha : MatIn w m va) (hvm : validM m = false) : Calls Try.prog 28 #[va] w (MatAns w [] 1) := by
  have hmf : ∀ (fn : Fn) (first cap : Array Value) (w : World), (Instr.makeFunc fn first cap).run Try.prog w = .ok (.func fn first cap) w := fun _ _ _ _ => rfl
  obtain ⟨a, ca, rfl, hin, _, _⟩ := id ha
  obtain ⟨X, hX⟩ : ∃ X, Obj.cells #[.slice a m.length ca] 24 = X := ⟨_, rfl⟩
  have hS3 : ∀ Z, Same w ((w.alloc X).alloc Z) := fun Z => (Same.alloc w X).trans (by simp) (Same.alloc _ Z)
  have hbel : Below w.heap.size w (w.alloc X) := (Below.refl _ w).alloc (Nat.le_refl _) _
  have cm : ∀ Z, ((w.alloc X).alloc Z).cell? ⟨w.heap.size, 0, none⟩ = some (.slice a m.length ca) := fun Z => by
    refine (Same.alloc _ Z).cell ?_; rw [← hX]; simp [go_sem]
  have hcf := fun (cs : Array Value) (w : World) => enters_of Try.func59 (by kernel_rfl) rfl cs w
  have h41 := fitted41_no 59 #[.pointer (some ⟨w.heap.size, 0, none⟩)] 1 (w.alloc X) (hcf _) (normal1_no m _ _ _ (ha.mono (hS3 _)) (cm _) hvm)
  subst hX
  have HBL := Lib.hid hbel
  clear hvm hin ha hS3 hbel cm hcf
  go_enter Try.func28, Try.ntmps28
  go_wp2_with (go_at_call 41; (with_reducible refine h41.mono ?_); rintro e w1 ⟨rfl, hb1⟩)
  go_ret2
  exact ⟨_, rfl, mat_nil _, HBL.out.trans (hb1.mono HBL.out.size)⟩


/-- Some Bool comes back, and nothing has turned. -/
def SomeB (w : World) (e : Ending) (w2 : World) : Prop := ∃ sb : Bool, e = .returned (.bool sb) ∧ w = w2
set_option maxHeartbeats 1000000 in
set_option maxRecDepth 100000 in
theorem small_any (m : List (List Int)) (v : Value) (w : World) (hv : MatIn w m v) : Calls Try.prog 26 #[v] w (SomeB w) := by
  obtain ⟨a, ca, rfl, hin, hal, _⟩ := hv
  go_enter Try.func26, Try.ntmps26
  go_wp2_with fail
  go_loop [3] (fun i => ∃ j : Nat, i = .int .i64 j ∧ j ≤ m.length) (fun i => m.length - (intOf i).toNat)
  case atStart => exact ⟨0, rfl, Nat.zero_le _⟩
  case round =>
    obtain ⟨j, rfl, hj⟩ := hrel
    by_cases hlt : j < m.length
    · have w4 : (j : Int) < (m.length : Int) := by omega
      by_cases h12 : (j : Int) < 12
      · obtain ⟨ba, off, u, rfl, hc, hu⟩ := hin j hlt
        obtain ⟨p, hp⟩ : ∃ p, m.getD j [] = p := ⟨_, rfl⟩
        rw [hp] at hu
        obtain ⟨au, cu, rfl, _, _, _⟩ := hu
        clear hp
        by_cases hb : (12 : Int) < (p.length : Int)
        · go_wp2_with fail
          go_ret
          exact ⟨_, rfl, rfl⟩
        · go_wp2_with fail
          go_round
          case rel => exact ⟨j + 1, by go_num, by omega⟩
          case measure => simp [intOf]; omega
      · by_cases hl : (m.length : Int) ≤ 12
        · go_wp2_with fail
          go_ret
          exact ⟨_, rfl, rfl⟩
        · go_wp2_with fail
          go_ret
          exact ⟨_, rfl, rfl⟩
    · have w4 : ¬ (j : Int) < (m.length : Int) := by omega
      by_cases hl : (m.length : Int) ≤ 12
      · go_wp2_with fail
        go_ret
        exact ⟨_, rfl, rfl⟩
      · go_wp2_with fail
        go_ret
        exact ⟨_, rfl, rfl⟩
set_option maxHeartbeats 1000000 in
set_option maxRecDepth 100000 in
theorem light_any (m : List (List Int)) (v : Value) (w : World) (hv : MatIn w m v) : Calls Try.prog 27 #[v] w (SomeB w) := by
  obtain ⟨a, ca, rfl, hin, hal, _⟩ := hv
  go_enter Try.func27, Try.ntmps27
  go_wp2_with fail
  go_loop [3] (fun i => ∃ j : Nat, i = .int .i64 j ∧ j ≤ m.length) (fun i => m.length - (intOf i).toNat)
  case atStart => exact ⟨0, rfl, Nat.zero_le _⟩
  case round =>
    obtain ⟨j, rfl, hj⟩ := hrel
    by_cases hlt : j < m.length
    · have w4 : (j : Int) < (m.length : Int) := by omega
      by_cases h12 : (j : Int) < 12
      · obtain ⟨ba, off, u, rfl, hc, hu⟩ := hin j hlt
        obtain ⟨p, hp⟩ : ∃ p, m.getD j [] = p := ⟨_, rfl⟩
        rw [hp] at hu
        obtain ⟨au, cu, rfl, _, _, _⟩ := hu
        clear hp
        by_cases hb : (300 : Int) < (p.length : Int)
        · go_wp2_with fail
          go_ret
          exact ⟨_, rfl, rfl⟩
        · go_wp2_with fail
          go_round
          case rel => exact ⟨j + 1, by go_num, by omega⟩
          case measure => simp [intOf]; omega
      · by_cases hl : (m.length : Int) ≤ 12
        · go_wp2_with fail
          go_ret
          exact ⟨_, rfl, rfl⟩
        · go_wp2_with fail
          go_ret
          exact ⟨_, rfl, rfl⟩
    · have w4 : ¬ (j : Int) < (m.length : Int) := by omega
      by_cases hl : (m.length : Int) ≤ 12
      · go_wp2_with fail
        go_ret
        exact ⟨_, rfl, rfl⟩
      · go_wp2_with fail
        go_ret
        exact ⟨_, rfl, rfl⟩
theorem above_any (n : Int) (w : World) (h1 : -655360 ≤ n) (h2 : n ≤ 655360) : Calls Try.prog 70 #[.int .i64 n] w fun e w' => e = .returned (.int .i64 (absI n)) ∧ w = w' := by
  unfold absI
  go_enter Try.func70, Try.ntmps70
  go_wp2_with fail
  all_goals
    go_ret
    exact ⟨by first | rfl | (congr 2; omega), rfl⟩
set_option maxHeartbeats 1000000 in
set_option maxRecDepth 100000 in
theorem sum_any (l : List Int) (v : Value) (w : World) (hv : RowIn w l v) (h2 : l.length ≤ 8) (hb : ∀ k, (l.getD k 0).natAbs ≤ 655360) :
    Calls Try.prog 39 #[v] w fun e w' => e = .returned (.int .i64 (sumA l)) ∧ w = w' := by
  obtain ⟨a, ca, rfl, hin, hal, hcap⟩ := hv
  have HB := Lib.hid hb
  have HSB := Lib.hid (sumTo_bd hb)
  clear hb
  go_enter Try.func39, Try.ntmps39
  go_wp2_with fail
  go_loop [3, 4] (fun s i => ∃ k : Nat, i = .int .i64 k ∧ k ≤ l.length ∧ s = .int .i64 (sumTo l k)) (fun _ i => l.length - (intOf i).toNat)
  case atStart => exact ⟨0, rfl, Nat.zero_le _, rfl⟩
  case round =>
    obtain ⟨k, rfl, hk, rfl⟩ := hrel
    by_cases hlt : k < l.length
    · obtain ⟨ba, off, rfl, hc, _⟩ := hin k hlt
      have hxb := HB.out k
      have hS := HSB.out k
      have hsc := sumTo_succ l k
      obtain ⟨x, hx⟩ : ∃ x, l.getD k 0 = x := ⟨_, rfl⟩
      obtain ⟨s, hs⟩ : ∃ s, sumTo l k = s := ⟨_, rfl⟩
      rw [hx] at hc hxb hsc
      rw [hs] at hS hsc ⊢
      have hab := above_any x w (by omega) (by omega)
      have hy1 : 0 ≤ absI x ∧ absI x ≤ 655360 := by unfold absI; omega
      obtain ⟨y, hy⟩ : ∃ y, absI x = y := ⟨_, rfl⟩
      rw [hy] at hab hsc hy1
      have HSC := Lib.hid hsc
      obtain ⟨s1, s2⟩ := hS
      obtain ⟨y1, y2⟩ := hy1
      have s3 : s ≤ 5242880 := by omega
      have w4 : (k : Int) < (l.length : Int) := by omega
      clear hx hs hsc hxb s2 hy
      go_wp2_with (go_at_call 70; (with_reducible refine hab.mono ?_); rintro e w1 ⟨rfl, rfl⟩)
      go_round
      case rel => exact ⟨k + 1, by go_num, by omega, by rw [HSC.out]⟩
      case measure => simp [intOf]; omega
    · have w4 : ¬ (k : Int) < (l.length : Int) := by omega
      obtain rfl : k = l.length := by omega
      go_wp2_with fail
      go_ret
      exact ⟨rfl, rfl⟩
end Go.Proofs.Ytpjmiiejmkgmdaa
