/- Outcomes: small makers of choices. -/
import Derived.Test.YtlpdeadmiinhoaaGreatDoorHB
namespace Go.Proofs.YtlpdeadmiinhoaaGreatDoor
open Go.RowKit

/-- A choice whose list is new is handed back. -/
def ChOut (w : World) (c : Ch) (e : Ending) (w' : World) : Prop :=
  ∃ a cap, e = .returned (.agg #[.int .i64 c.kind, .int .i64 c.dflt, .slice a c.list.length cap]) ∧ Row w.heap.size w' (.slice a c.list.length cap) c.list ∧ Below w.heap.size w w'
def zCh : Ch := ⟨0, 0, []⟩
def bareOf (l : List Int) : Ch := if l = [] then zCh else ofList l

theorem row_made {w : World} {B g : Nat} {l : List Int} {n : Nat} (hg : w.heap[g]? = some (.cells (l.map (Value.int .i64)).toArray 3 (0, 0))) (hB : B ≤ g) (hl : l.length ≤ 100) (hn : l.length = n) : Row B w (.slice (some ⟨g, 0, none⟩) n n) l := by
  subst hn
  refine ⟨by simp, Or.inr ⟨g, l.length, (l.map (Value.int .i64)).toArray, rfl, hB, hg, Nat.le_refl _, by unfold maxLen; omega, by simp, by simp [List.take_of_length_le]⟩⟩
theorem third_block (w : World) (X Y Z : Obj) : (((w.alloc X).alloc Y).alloc Z).heap[w.heap.size + 2]? = some Z := by
  have h := heap_alloc_new ((w.alloc X).alloc Y) Z
  have e : ((w.alloc X).alloc Y).heap.size = w.heap.size + 2 := by simp
  rw [e] at h
  exact h
theorem Row.setCell {B : Nat} {w : World} {v : Value} {l : List Int} (h : Row B w v l) {p : Addr} (hp : p.block < B) (x : Value) : Row B (w.setCell p x) v l := ownsRow_setCell_below h hp x

set_option maxRecDepth 100000 in
theorem toRange1_any (s : Sp) (w : World) : Calls Tryz.prog 143 #[s.val] w (ChOut w ⟨3, 0, [s.lo, s.hi]⟩) := by
  obtain ⟨lo, hi, st⟩ := s
  unfold Sp.val
  simp only
  go_enter Tryz.func143, Tryz.ntmps143
  go_wp2_with fail
  refine bodyPost_ret (v := .agg #[.int .i64 3, .int .i64 0, .slice (some ⟨w.heap.size + 2, 0, none⟩) 2 2]) (by simp [results, Tryz.results143, go_sem]) rfl ⟨_, _, rfl, row_made (g := w.heap.size + 2) (third_block _ _ _ _) (by omega) (by simp) rfl, ?_⟩
  exact (((Below.refl _ _).alloc (Nat.le_refl _) _).alloc (by simp) _).alloc (by simp; omega) _
set_option maxRecDepth 100000 in
theorem toSteps1_any (s : Sp) (w : World) : Calls Tryz.prog 144 #[s.val] w (ChOut w ⟨4, 0, [s.lo, s.hi, s.st]⟩) := by
  obtain ⟨lo, hi, st⟩ := s
  unfold Sp.val
  simp only
  go_enter Tryz.func144, Tryz.ntmps144
  go_wp2_with fail
  refine bodyPost_ret (v := .agg #[.int .i64 4, .int .i64 0, .slice (some ⟨w.heap.size + 2, 0, none⟩) 3 3]) (by simp [results, Tryz.results144, go_sem]) rfl ⟨_, _, rfl, row_made (g := w.heap.size + 2) (third_block _ _ _ _) (by omega) (by simp) rfl, ?_⟩
  exact (((Below.refl _ _).alloc (Nat.le_refl _) _).alloc (by simp) _).alloc (by simp; omega) _

/-- listOf: its very value. -/
def listV (l : List Int) (a : Option Addr) (c : Nat) : Value :=
  if l.length = 0 then .agg #[.int .i64 0, .int .i64 0, .slice none 0 0] else if l.length = 1 then .agg #[.int .i64 1, .int .i64 0, .slice a l.length c] else .agg #[.int .i64 2, .int .i64 0, .slice a l.length c]
set_option maxRecDepth 100000 in
theorem listOf_any (l : List Int) (a : Option Addr) (c : Nat) (w : World) (hl : l.length ≤ 1000) : Calls Tryz.prog 141 #[.slice a l.length c] w fun e w' => e = .returned (listV l a c) ∧ Below w.heap.size w w' := by
  unfold listV
  obtain ⟨n, hn⟩ : ∃ n, l.length = n := ⟨_, rfl⟩
  rw [hn] at hl ⊢
  clear hn
  by_cases h0 : n = 0
  · subst h0
    rw [if_pos rfl]
    go_enter Tryz.func141, Tryz.ntmps141
    go_wp2_with fail
    exact bodyPost_ret (v := .agg #[.int .i64 0, .int .i64 0, .slice none 0 0]) (by simp [results, Tryz.results141, go_sem]) rfl ⟨rfl, (Below.refl _ _).alloc (Nat.le_refl _) _⟩
  rw [if_neg h0]
  have g0 : ((n : Int) == 0) = false := by simp; omega
  by_cases h1 : n = 1
  · subst h1
    rw [if_pos rfl]
    clear h0
    go_enter Tryz.func141, Tryz.ntmps141
    go_wp2_with fail
    exact bodyPost_ret (v := .agg #[.int .i64 1, .int .i64 0, .slice a 1 c]) (by simp [results, Tryz.results141, go_sem]) rfl ⟨rfl, (Below.refl _ _).alloc (Nat.le_refl _) _⟩
  · rw [if_neg h1]
    have g1 : ((n : Int) == 1) = false := by simp; omega
    clear h0 h1
    go_enter Tryz.func141, Tryz.ntmps141
    go_wp2_with fail
    exact bodyPost_ret (v := .agg #[.int .i64 2, .int .i64 0, .slice a n c]) (by simp [results, Tryz.results141, go_sem]) rfl ⟨rfl, (Below.refl _ _).alloc (Nat.le_refl _) _⟩
theorem listV_eq (l : List Int) (a : Option Addr) (c : Nat) : ∃ a' c', listV l a c = .agg #[.int .i64 (bareOf l).kind, .int .i64 (bareOf l).dflt, .slice a' (bareOf l).list.length c'] ∧ (bareOf l).list = l ∧ ∀ B w, Row B w (.slice a l.length c) l → Row B w (.slice a' (bareOf l).list.length c') (bareOf l).list := by
  unfold listV bareOf
  by_cases h0 : l = []
  · subst h0
    exact ⟨none, 0, rfl, rfl, fun B w _ => Row.nil B w⟩
  · have hl : ¬ l.length = 0 := by simpa using h0
    rw [if_neg hl, if_neg h0]
    unfold ofList
    by_cases h1 : l.length = 1
    · rw [if_pos h1, if_pos h1]; exact ⟨a, c, rfl, rfl, fun _ _ h => h⟩
    · rw [if_neg h1, if_neg h1]; exact ⟨a, c, rfl, rfl, fun _ _ h => h⟩
end Go.Proofs.YtlpdeadmiinhoaaGreatDoor
