import Derived.Test.YtfbeeaibejggdaaDoorA7
import Derived.Deep.CutBlock
import Derived.Deep.DeepCutAuto
import Derived.Deep.RegionHeld3
namespace Go.Proofs.YtfbeeaibejggdaaDoor
open Go.RowKit

def numS (n : Int) (k : Nat) : ByteArray := strOfNums (digs (IntKind.u64.wrap n) k)
def zero4 : ByteArray := ⟨#[0, 0, 0, 0]⟩
def startS (kd n : Int) (s : ByteArray) : ByteArray :=
  if kd == 2 then numS n 4 else if kd == 3 then numS n 8 else if kd == 4 then s else if kd == 5 then s else if kd == 8 then numS n 4 ++ zero4 else if kd == 9 then numS n 4 ++ zero4 else ⟨#[]⟩
def zeros (j : Nat) : ByteArray := ⟨Array.replicate j 0⟩
def padS (x : ByteArray) : ByteArray := x ++ zeros ((8 - x.size % 8) % 8)
def closeS (kd : Int) (b : ByteArray) : ByteArray := padS (numS b.size 4 ++ numS kd 4 ++ b)
def keyS (kd : Int) (b : ByteArray) (key : Int) : ByteArray := if kd == 8 || kd == 10 then b ++ (numS key 4 ++ zero4) else b
mutual
def writtenT : T → ByteArray
  | .mk kd n s keys kids => closeS kd (bodyL kd (startS kd n s) keys kids)
def bodyL (kd : Int) (b : ByteArray) (keys : List Int) : List T → ByteArray
  | [] => b
  | t :: r => bodyL kd (keyS kd b (keys.headD 0) ++ writtenT t) keys.tail r
end
theorem bodyL_snoc (kd : Int) (t : T) : ∀ (xs : List T) (b : ByteArray) (keys : List Int), bodyL kd b keys (xs ++ [t]) = keyS kd (bodyL kd b keys xs) (keys.getD xs.length 0) ++ writtenT t
  | [], b, keys => by simp only [List.nil_append, bodyL, List.length_nil]; cases keys <;> rfl
  | x :: r, b, keys => by
    simp only [List.cons_append, bodyL]
    rw [bodyL_snoc kd t r]
    cases keys <;> simp

theorem u64_lo (n : Int) : 0 ≤ IntKind.u64.wrap n := by unfold IntKind.wrap; simp [IntKind.bits, IntKind.signed]; omega
theorem u64_hi (n : Int) : IntKind.u64.wrap n < 18446744073709551616 := by unfold IntKind.wrap; simp [IntKind.bits, IntKind.signed]; omega
theorem little4 (n : Int) (w : World) : Calls Tryd.prog 61 #[.int .u64 (IntKind.u64.wrap n), .int .i64 4] w fun e w' => e = .returned (.string (numS n 4)) ∧ Below w.heap.size w w' :=
  little_any (IntKind.u64.wrap n) 4 w (u64_lo n) (u64_hi n) (by omega) (by omega)
theorem little8 (n : Int) (w : World) : Calls Tryd.prog 61 #[.int .u64 (IntKind.u64.wrap n), .int .i64 8] w fun e w' => e = .returned (.string (numS n 8)) ∧ Below w.heap.size w w' :=
  little_any (IntKind.u64.wrap n) 8 w (u64_lo n) (u64_hi n) (by omega) (by omega)

theorem numS_size (n : Int) (k : Nat) : (numS n k).size = k := by
  unfold numS; show (strOfNums _).data.size = k
  simp [strOfNums, digs]
theorem app_size (a b : ByteArray) : (a ++ b).size = a.size + b.size := ByteArray.size_append
theorem zero4_size : zero4.size = 4 := rfl
theorem zeros_size (j : Nat) : (zeros j).size = j := by show (Array.replicate j (0 : UInt8)).size = j; simp

mutual
def costT : T → Nat
  | .mk _ _ s keys kids => 1 + keys.length + s.size / 64 + costL kids
def costL : List T → Nat
  | [] => 0
  | t :: r => costT t + costL r
end
theorem costL_append : ∀ (a b : List T), costL (a ++ b) = costL a + costL b
  | [], b => by simp [costL]
  | t :: r, b => by simp only [List.cons_append, costL]; rw [costL_append r b]; omega
theorem costL_take (l : List T) (k : Nat) (h : k < l.length) : costL (l.take (k + 1)) = costL (l.take k) + costT l[k] := by rw [take_next l k h, costL_append]; simp [costL]
theorem costL_le (l : List T) (k : Nat) : costL (l.take k) ≤ costL l := by
  have := costL_append (l.take k) (l.drop k)
  rw [List.take_append_drop] at this; omega

mutual
theorem weight_cost : ∀ (t : T) (l : Int), 0 < weightT t l → weightT t l = l - costT t
  | .mk kd n s keys kids, l, h => by
    rw [weightT] at h ⊢
    rw [weightL_cost kids _ h, costT]
    omega
theorem weightL_cost : ∀ (xs : List T) (l : Int), 0 < weightL xs l → weightL xs l = l - costL xs
  | [], l, _ => by simp [weightL, costL]
  | t :: r, l, h => by
    rw [weightL] at h ⊢
    have h2 := weightL_cost r _ h
    rw [h2, costL]
    by_cases hl : 0 < l
    · rw [if_pos hl] at h ⊢
      have h3 := weightL_le' r (weightT t l)
      rw [weight_cost t l (by omega)]
      omega
    · rw [if_neg hl] at h ⊢
      have h3 := weightL_le' r l
      omega
end

theorem startS_size (kd n : Int) (s : ByteArray) : (startS kd n s).size ≤ 8 + s.size := by
  unfold startS
  repeat' split
  all_goals try simp only [numS_size, app_size, zero4_size]
  all_goals first | omega | (show (0 : Nat) ≤ _; omega)
theorem keyS_size (kd : Int) (b : ByteArray) (key : Int) : (keyS kd b key).size ≤ b.size + 8 := by
  unfold keyS
  split <;> (try simp only [numS_size, app_size, zero4_size]) <;> omega
theorem padS_size (x : ByteArray) : (padS x).size ≤ x.size + 7 := by
  unfold padS; rw [app_size, zeros_size]; omega
theorem closeS_size (kd : Int) (b : ByteArray) : (closeS kd b).size ≤ b.size + 15 := by
  unfold closeS
  have := padS_size (numS b.size 4 ++ numS kd 4 ++ b)
  simp only [numS_size, app_size] at this
  omega
mutual
theorem written_size : ∀ (t : T), (writtenT t).size + 8 ≤ 96 * costT t
  | .mk kd n s keys kids => by
    rw [writtenT, costT]
    have h1 := closeS_size kd (bodyL kd (startS kd n s) keys kids)
    have h2 := body_size kd kids (startS kd n s) keys
    have h3 := startS_size kd n s
    omega
theorem body_size (kd : Int) : ∀ (l : List T) (b : ByteArray) (keys : List Int), (bodyL kd b keys l).size ≤ b.size + 96 * costL l
  | [], b, keys => by simp [bodyL, costL]
  | t :: r, b, keys => by
    rw [bodyL, costL]
    have h1 := body_size kd r (keyS kd b (keys.headD 0) ++ writtenT t) keys.tail
    have h2 := written_size t
    have h3 := keyS_size kd b (keys.headD 0)
    rw [app_size] at h1
    omega
end

end Go.Proofs.YtfbeeaibejggdaaDoor
