/- The reference's Encode, where it fails. -/
import Derived.Test.YtegomicpolnpoaaUG
namespace Go.Proofs.Ytegomicpolnpoaa
open Go.RowKit Go.Deep Go.Shelf

set_option maxRecDepth 100000 in
theorem refEncode_invalid (n : Int) (p : Bool) (m : List (List Int)) (v : Value) (w : World) (hM : MatIn w m v) (hv : validB m = false) :
    Calls Try.prog 21 #[.int .i64 n, .bool p, v] w fun x w' => x = .returned (.tuple #[.string ByteArray.empty, .int .i64 1]) ∧ Below w.heap.size w w' := by
  have hva := refValidBlock_any m v w hM
  rw [hv] at hva
  go_enter Try.func21, Try.ntmps21
  go_wp2_with (go_at_call 42; (with_reducible refine hva.mono ?_); rintro e w1 ⟨rfl, hb1⟩; have HB1 := Lib.hid hb1; clear hb1)
  go_ret2
  exact ⟨rfl, HB1.out⟩
set_option maxRecDepth 100000 in
theorem refEncode_range (n : Int) (hn : encB n = false) (p : Bool) (m : List (List Int)) (v : Value) (w : World) (hM : MatIn w m v) (hv : validB m = true) :
    Calls Try.prog 21 #[.int .i64 n, .bool p, v] w fun x w' => x = .returned (.tuple #[.string ByteArray.empty, .int .i64 7]) ∧ Below w.heap.size w w' := by
  have hva := refValidBlock_any m v w hM
  rw [hv] at hva
  have hbt := fun x => refBits_no hn x
  clear hn
  go_enter Try.func21, Try.ntmps21
  go_wp2_with (first
    | (go_at_call 42; (with_reducible refine hva.mono ?_); rintro e w1 ⟨rfl, hb1⟩; have HB1 := Lib.hid hb1; clear hb1)
    | (go_at_call 11; (with_reducible refine (hbt _).mono ?_); rintro e w2 ⟨rfl, rfl⟩))
  go_ret2
  exact ⟨rfl, HB1.out⟩
end Go.Proofs.Ytegomicpolnpoaa
