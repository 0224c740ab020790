/- A dither's errors; a number's lowest bits. -/
import Derived.Test.YtegomicpolnpoaaXE
import Derived.Test.YtegomicpolnpoaaIA
namespace Go.Proofs.Ytegomicpolnpoaa
open Go.RowKit Go.Deep Go.Shelf

theorem and24 (x : Int) : bits BinOp.and IntKind.i64 x 16777215 = x % 16777216 := by
  have e1 : (BitVec.ofInt 64 x).toNat = (x % 18446744073709551616).toNat := by rw [BitVec.toNat_ofInt]; rfl
  have e2 : (BitVec.ofInt 64 16777215).toNat = 16777215 := by decide
  have e3 : ∀ a : Nat, a &&& 16777215 = a % 16777216 := fun a => Nat.and_two_pow_sub_one_eq_mod a 24
  have e4 : bits BinOp.and IntKind.i64 x 16777215 = IntKind.i64.wrap ((BitVec.ofInt 64 x &&& BitVec.ofInt 64 16777215).toNat : Nat) := rfl
  rw [e4, BitVec.toNat_and, e1, e2, e3, IntKind.wrap_i64]
  have h0 := Int.emod_nonneg x (show (18446744073709551616 : Int) ≠ 0 by decide)
  have h1 : ((x % 18446744073709551616).toNat : Int) = x % 18446744073709551616 := Int.toNat_of_nonneg h0
  have h2 : (((x % 18446744073709551616).toNat % 16777216 : Nat) : Int) = x % 16777216 := by
    rw [Int.natCast_emod, h1]; omega
  rw [h2]
  omega
theorem ds_row {D E r e : Nat} {sh : Bool} {s : Int × List Int} {w : World} (h : DS D E r e sh s w) (hr8 : r ≤ 8) : RowIn w s.2 (.slice (some ⟨E, 0, none⟩) r r) := by
  have hl := h.len
  refine ⟨some ⟨E, 0, none⟩, r, by rw [hl], fun i hi => ⟨E, 0, rfl, ?_, ?_⟩, by omega, by omega⟩
  · rw [Nat.zero_add]; exact h.row.cell (by omega)
  · have := h.errs i (by omega)
    have := stepN_two e
    unfold I64; omega
theorem rowN_in {B : Nat} {w : World} {g : Nat} {l : List Int} {cap : Nat} (h : RowN B w g l.length (fun i => l.getD i 0)) (hc : l.length ≤ cap) (hl : l.length ≤ 8) (h64 : ∀ i, i < l.length → I64 (l.getD i 0)) : RowIn w l (.slice (some ⟨g, 0, none⟩) l.length cap) :=
  ⟨some ⟨g, 0, none⟩, cap, rfl, fun i hi => ⟨g, 0, rfl, by rw [Nat.zero_add]; exact h.cell i hi, h64 i hi⟩, by omega, hc⟩
set_option maxRecDepth 100000 in
theorem errors_any {D E r e : Nat} {sh : Bool} {s : Int × List Int} (w : World) (h : DS D E r e sh s w) (hr1 : 1 ≤ r) (hr8 : r ≤ 8) : Calls Try.prog 40 #[.pointer (some ⟨D, 0, none⟩)] w fun y w' => ∃ u, y = .returned u ∧ RowIn w' s.2 u ∧ Below w.heap.size w w' := by
  have hl := h.len
  have c3 := h.top.cell (i := 3) (by decide)
  rw [show dF e sh E r s.1 3 = .slice (some ⟨E, 0, none⟩) r r from rfl] at c3
  have hc := clone_any s.2 _ w (ds_row h hr8) (by omega) (by omega)
  have HI := Lib.hid (fun i (hi : i < s.2.length) => (by have := h.errs i (by omega); have := stepN_two e; unfold I64; omega : I64 (s.2.getD i 0)))
  clear h
  go_enter Try.func40, Try.ntmps40
  go_wp2_with (go_at_call 93; (with_reducible refine hc.mono ?_); rintro y w1 ⟨g, cap, rfl, hcap, hrn, hb⟩; have HR := Lib.hid (rowN_in hrn hcap (by omega) HI.out); have HB := Lib.hid hb; clear hrn hb)
  go_ret
  exact ⟨_, rfl, by have h2 := HR.out; rw [hl] at h2; exact h2, HB.out⟩
end Go.Proofs.Ytegomicpolnpoaa
