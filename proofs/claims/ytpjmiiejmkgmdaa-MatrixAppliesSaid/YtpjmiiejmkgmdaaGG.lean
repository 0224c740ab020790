/- Plain: the program's answer, whatever the matrix. -/
import Derived.Test.YtpjmiiejmkgmdaaGF
import Derived.Test.YtpjmiiejmkgmdaaJA
namespace Go.Proofs.Ytpjmiiejmkgmdaa
open Go.RowKit Go.Deep Go.Shelf

set_option maxHeartbeats 2000000 in
set_option maxRecDepth 100000 in
theorem plain1_no (m : List (List Int)) (va : Value) (Bm : Nat) (w : World) (ha : MatIn w m va) (hcm : w.cell? ⟨Bm, 0, none⟩ = some va) (hvm : validM m = false) :
    Calls Try.prog 54 #[.pointer (some ⟨Bm, 0, none⟩)] w (Leaves96 1 w) := by
  obtain ⟨R, hR⟩ : ∃ R, Obj.cells #[.bool false] 4 = R := ⟨_, rfl⟩
  obtain ⟨A, hA⟩ : ∃ A, Obj.cells #[.bool false, .bool false, .bool false, .bool false, .bool false, .bool false, .bool false, .bool false] 73 = A := ⟨_, rfl⟩
  have hb3 : Below w.heap.size w (((w.alloc R).alloc A).alloc A) := (((Below.refl _ w).alloc (Nat.le_refl _) _).alloc (by simp) _).alloc (by simp; omega) _
  have hc := (Same.of_below hb3).cell hcm
  have h55 := matrixOf_no m va _ (ha.mono (Same.of_below hb3)) hvm
  subst hR hA
  obtain ⟨a, ca, rfl, _, _, _⟩ := ha
  have HB := Lib.hid hb3
  clear hvm hb3
  go_enter Try.func54, Try.ntmps54
  go_wp2_with (go_at_call 55; (with_reducible refine h55.mono ?_); rintro e w1 ⟨rfl, hb⟩)
  exact ⟨rfl, rfl, HB.out.trans (hb.mono HB.out.size)⟩

set_option maxHeartbeats 2000000 in
set_option maxRecDepth 100000 in
theorem plainM_yes (m : List (List Int)) (va : Value) (w : World) (ha : MatIn w m va) (hvm : validM m = true) : Calls Try.prog 16 #[va] w (PlA m w) := by
  have hmf : ∀ (fn : Fn) (first cap : Array Value) (w : World), (Instr.makeFunc fn first cap).run Try.prog w = .ok (.func fn first cap) w := fun _ _ _ _ => rfl
  obtain ⟨a, ca, rfl, hin, _, _⟩ := id ha
  obtain ⟨X, hX⟩ : ∃ X, Obj.cells #[.slice a m.length ca] 24 = X := ⟨_, rfl⟩
  have hS3 : ∀ Z, Same w ((w.alloc X).alloc Z) := fun Z => (Same.alloc w X).trans (by simp) (Same.alloc _ Z)
  have hbel : Below w.heap.size w (w.alloc X) := (Below.refl _ w).alloc (Nat.le_refl _) _
  have cm : ∀ Z, ((w.alloc X).alloc Z).cell? ⟨w.heap.size, 0, none⟩ = some (.slice a m.length ca) := fun Z => by
    refine (Same.alloc _ Z).cell ?_; rw [← hX]; simp [go_sem]
  have hcf := fun (cs : Array Value) (w : World) => enters_of Try.func54 (by kernel_rfl) rfl cs w
  have h53 := fitted53_ok 54 #[.pointer (some ⟨w.heap.size, 0, none⟩)] (w.alloc X) (PlV m) (fun u w1 w2 _ hu => hu) (hcf _)
    (plain1_ok m _ _ _ (ha.mono (hS3 _)) (cm _) hvm)
  subst hX
  have HBL := Lib.hid hbel
  clear hvm hin ha hS3 hbel cm hcf
  go_enter Try.func16, Try.ntmps16
  go_wp2_with (go_at_call 53; (with_reducible refine h53.mono ?_); rintro e w1 ⟨u, rfl, hu, hb1⟩; obtain ⟨bb, rfl, hbb⟩ := hu; have HU := Lib.hid hbb; clear hbb)
  go_ret2
  exact ⟨bb, rfl, HU.out, HBL.out.trans (hb1.mono HBL.out.size)⟩
set_option maxHeartbeats 2000000 in
set_option maxRecDepth 100000 in
theorem plainM_no (m : List (List Int)) (va : Value) (w : World) (ha : MatIn w m va) (hvm : validM m = false) : Calls Try.prog 16 #[va] w fun e w' => e = .returned (.tuple #[.bool false, .int .i64 1]) ∧ Below w.heap.size w w' := by
  have hmf : ∀ (fn : Fn) (first cap : Array Value) (w : World), (Instr.makeFunc fn first cap).run Try.prog w = .ok (.func fn first cap) w := fun _ _ _ _ => rfl
  obtain ⟨a, ca, rfl, hin, _, _⟩ := id ha
  obtain ⟨X, hX⟩ : ∃ X, Obj.cells #[.slice a m.length ca] 24 = X := ⟨_, rfl⟩
  have hS3 : ∀ Z, Same w ((w.alloc X).alloc Z) := fun Z => (Same.alloc w X).trans (by simp) (Same.alloc _ Z)
  have hbel : Below w.heap.size w (w.alloc X) := (Below.refl _ w).alloc (Nat.le_refl _) _
  have cm : ∀ Z, ((w.alloc X).alloc Z).cell? ⟨w.heap.size, 0, none⟩ = some (.slice a m.length ca) := fun Z => by
    refine (Same.alloc _ Z).cell ?_; rw [← hX]; simp [go_sem]
  have hcf := fun (cs : Array Value) (w : World) => enters_of Try.func54 (by kernel_rfl) rfl cs w
  have h53 := fitted53_no 54 #[.pointer (some ⟨w.heap.size, 0, none⟩)] 1 (w.alloc X) (hcf _) (plain1_no m _ _ _ (ha.mono (hS3 _)) (cm _) hvm)
  subst hX
  have HBL := Lib.hid hbel
  clear hvm hin ha hS3 hbel cm hcf
  go_enter Try.func16, Try.ntmps16
  go_wp2_with (go_at_call 53; (with_reducible refine h53.mono ?_); rintro e w1 ⟨rfl, hb1⟩)
  go_ret2
  exact ⟨rfl, HBL.out.trans (hb1.mono HBL.out.size)⟩
end Go.Proofs.Ytpjmiiejmkgmdaa
