/- The example of the document, and which values are looked at. -/
import Derived.Test.YtfbeeaibejggdaaDoorGA
import Derived.Test.YtfbeeaibejggdaaDoorE3
namespace Go.Proofs.YtfbeeaibejggdaaDoor
open Go.RowKit

def fiveT : T := .mk 3 5 ⟨#[]⟩ [] []
def fiveS : ByteArray := ⟨#[8, 0, 0, 0, 3, 0, 0, 0, 5, 0, 0, 0, 0, 0, 0, 0]⟩
theorem five_written : writtenT fiveT = fiveS := by
  unfold fiveT
  rw [writtenT, bodyL]
  decide +kernel
theorem five_valid : validB fiveT = true := by
  have h : (writtenT fiveT).size = 16 := by rw [five_written]; rfl
  unfold validB
  rw [h]
  unfold fiveT
  rw [shapedB, deepT, deepL, countT, countL]
  decide +kernel
theorem five_rep (w : World) : Rep w fiveT (.agg #[.int .i64 3, .int .i64 5, .string ⟨#[]⟩, .slice none 0 0, .slice none 0 0]) := by
  unfold fiveT Rep
  refine ⟨none, none, 0, 0, rfl, by unfold I64; omega, by unfold I64; omega, by decide, by simp, by simp, fun i hi => by simp at hi, ?_⟩
  unfold KidsIn
  trivial

theorem awake_any (w : World) (hl : HasLaid w) : Calls Tryd.prog 9 #[] w fun e w' => e = .returned (.bool true) ∧ Below w.heap.size w w' := by
  have h := encode_any fiveT _ w (five_rep w) hl (by unfold fiveT; rw [costT, costL]; decide)
  rw [encodeV, if_pos five_valid, five_written] at h
  unfold fiveS at h
  go_enter Tryd.func9, Tryd.ntmps9
  go_wp2_with (go_at_call 10; refine h.mono ?_; rintro e w1 ⟨rfl, hb1⟩)
  go_ret
  exact ⟨rfl, hb1⟩

theorem light_any (t : T) (v : Value) (w : World) (hr : Rep w t v) : Calls Tryd.prog 8 #[v] w fun e w' => e = .returned (.bool (decide (0 < weightT t 3000))) ∧ Below w.heap.size w w' := by
  obtain ⟨ka, va, kc, vc, rfl, _, _, _, _, _, _, _⟩ := rep_agg hr
  have h := weight_any _ t _ 3000 _ (Nat.le_refl _) (Rep.mono (same_alloc w (.cells #[.int .i64 t.kind, .int .i64 t.n, .string t.s, .slice ka t.keys.length kc, .slice va t.kids.length vc] 25)) _ _ hr) (by omega) (by omega)
  go_enter Tryd.func8, Tryd.ntmps8
  go_wp2_with (go_at_call 33; refine h.mono ?_; rintro e w1 ⟨rfl, hb1⟩)
  go_ret
  exact ⟨ret_bool (by simp), box_out (box_first hb1)⟩

theorem light_cost {t : T} (h : decide (0 < weightT t 3000) = true) : costT t ≤ 3000 := by
  have h1 := of_decide_eq_true h
  have h2 := weight_cost t 3000 h1
  omega
end Go.Proofs.YtfbeeaibejggdaaDoor
/- The law ValueValid returns true. -/
namespace Go.Proofs.YtfbeeaibejggdaaDoor
open Go.RowKit

def aggT (t : T) (ka va : Option Addr) (kc vc : Nat) : Value := .agg #[.int .i64 t.kind, .int .i64 t.n, .string t.s, .slice ka t.keys.length kc, .slice va t.kids.length vc]

/-- What lies behind the two boxes. -/
def In2 (w : World) (X Y : Obj) (wr : World) : Prop := Below (w.heap.size + 2) ((w.alloc X).alloc Y) wr
theorem In2.first (w : World) (X Y : Obj) : In2 w X Y ((w.alloc X).alloc Y) := Below.refl _ _
theorem In2.next {w wr w1 : World} {X Y : Obj} (h : In2 w X Y wr) (hb : Below wr.heap.size wr w1) : In2 w X Y w1 := by
  have hs : ((w.alloc X).alloc Y).heap.size = w.heap.size + 2 := by simp
  have := Below.size h
  exact Below.trans h (hb.mono (by omega))
theorem In2.drew {w wr : World} {X Y : Obj} (h : In2 w X Y wr) : In2 w X Y wr.drew := Below.drew h
theorem In2.out {w wr : World} {X Y : Obj} (h : In2 w X Y wr) : Below w.heap.size w wr :=
  (((Below.refl _ w).alloc (Nat.le_refl _) X).alloc (by simp) Y).trans (Below.mono h (by omega))
theorem In2.same {w wr : World} {X Y : Obj} (h : In2 w X Y wr) : Same w wr := Same.of_below h.out
theorem In2.cells {w wr : World} {x0 x1 x2 x3 x4 y0 y1 y2 y3 y4 : Value} (h : In2 w (.cells #[x0, x1, x2, x3, x4] 25) (.cells #[y0, y1, y2, y3, y4] 25) wr) :
    (wr.cell? ⟨w.heap.size, 0, none⟩ = some x0 ∧ wr.cell? ⟨w.heap.size, 1, none⟩ = some x1 ∧ wr.cell? ⟨w.heap.size, 2, none⟩ = some x2 ∧ wr.cell? ⟨w.heap.size, 3, none⟩ = some x3 ∧ wr.cell? ⟨w.heap.size, 4, none⟩ = some x4) ∧
    wr.cell? ⟨w.heap.size + 1, 0, none⟩ = some y0 ∧ wr.cell? ⟨w.heap.size + 1, 1, none⟩ = some y1 ∧ wr.cell? ⟨w.heap.size + 1, 2, none⟩ = some y2 ∧ wr.cell? ⟨w.heap.size + 1, 3, none⟩ = some y3 ∧ wr.cell? ⟨w.heap.size + 1, 4, none⟩ = some y4 := by
  refine ⟨⟨?_, ?_, ?_, ?_, ?_⟩, ?_, ?_, ?_, ?_, ?_⟩ <;> (rw [Below.cell h (by simp)]; simp [go_sem])

theorem calls_in2 {w wr : World} {X Y : Obj} {f : Nat} {args : Array Value} {v : Value} (h : In2 w X Y wr) (c : Calls Tryd.prog f args wr fun e w' => e = .returned v ∧ Below wr.heap.size wr w') :
    Calls Tryd.prog f args wr fun e w' => e = .returned v ∧ In2 w X Y w' := c.mono fun e w' ⟨a, b⟩ => ⟨a, h.next b⟩

set_option maxRecDepth 100000 in
set_option maxHeartbeats 1600000 in
theorem valueValid_dark (a b : T) (va vb : Value) (w : World) (ha : Rep w a va) (hb : Rep w b vb) (hl : HasLaid w) (h : ¬ (decide (0 < weightT a 3000) = true ∧ decide (0 < weightT b 3000) = true)) :
    Calls Tryd.prog 3 #[va, vb] w fun e w' => e = .returned (.bool true) ∧ Below w.heap.size w w' := by
  have hra := ha
  have hrb := hb
  obtain ⟨ka, xa, kc, xc, rfl, _, _, _, _, _, _, _⟩ := rep_agg ha
  obtain ⟨ka', xa', kc', xc', rfl, _, _, _, _, _, _, _⟩ := rep_agg hb
  have h8a := fun (wr : World) (hi : In2 w (.cells #[.int .i64 a.kind, .int .i64 a.n, .string a.s, .slice ka a.keys.length kc, .slice xa a.kids.length xc] 25) (.cells #[.int .i64 b.kind, .int .i64 b.n, .string b.s, .slice ka' b.keys.length kc', .slice xa' b.kids.length xc'] 25) wr) =>
    calls_in2 hi (light_any a _ wr (Rep.mono hi.same _ _ hra))
  have h8b := fun (wr : World) (hi : In2 w (.cells #[.int .i64 a.kind, .int .i64 a.n, .string a.s, .slice ka a.keys.length kc, .slice xa a.kids.length xc] 25) (.cells #[.int .i64 b.kind, .int .i64 b.n, .string b.s, .slice ka' b.keys.length kc', .slice xa' b.kids.length xc'] 25) wr) =>
    calls_in2 hi (light_any b _ wr (Rep.mono hi.same _ _ hrb))
  have h9 := fun (wr : World) (hi : In2 w (.cells #[.int .i64 a.kind, .int .i64 a.n, .string a.s, .slice ka a.keys.length kc, .slice xa a.kids.length xc] 25) (.cells #[.int .i64 b.kind, .int .i64 b.n, .string b.s, .slice ka' b.keys.length kc', .slice xa' b.kids.length xc'] 25) wr) =>
    calls_in2 hi (awake_any wr (hl.mono hi.same))
  have HF := Lib.hid (In2.first w (.cells #[.int .i64 a.kind, .int .i64 a.n, .string a.s, .slice ka a.keys.length kc, .slice xa a.kids.length xc] 25) (.cells #[.int .i64 b.kind, .int .i64 b.n, .string b.s, .slice ka' b.keys.length kc', .slice xa' b.kids.length xc'] 25))
  have H8b := Lib.hid h8b
  have H9 := Lib.hid h9
  have g1 := h8a _ HF.out
  clear h8a h8b h9 hra hrb
  cases hA : decide (0 < weightT a 3000) with
  | false =>
    rw [hA] at g1
    clear h hA
    go_enter Tryd.func3, Tryd.ntmps3
    go_wp2_with (first
      | (go_at_call 8; (with_reducible refine g1.mono ?_); rintro e w1 ⟨rfl, hi1⟩; have g2 := H9.out w1 hi1)
      | (go_at_call 9; (with_reducible refine g2.mono ?_); rintro e w2 ⟨rfl, hi2⟩))
    go_ret
    exact ⟨rfl, hi2.out⟩
  | true =>
    have hB : decide (0 < weightT b 3000) = false := by
      cases hB : decide (0 < weightT b 3000) with
      | false => rfl
      | true => exact absurd ⟨hA, hB⟩ h
    rw [hA] at g1
    rw [hB] at H8b
    clear h hA hB
    go_enter Tryd.func3, Tryd.ntmps3
    go_wp2_with (first
      | (go_at_call 8; (with_reducible refine g1.mono ?_); rintro e w1 ⟨rfl, hi1⟩; obtain ⟨_, c0, c1, c2, c3, c4⟩ := hi1.cells; have g3 := H8b.out w1 hi1)
      | (go_at_call 8; (with_reducible refine g3.mono ?_); rintro e w3 ⟨rfl, hi3⟩; have g2 := H9.out w3 hi3)
      | (go_at_call 9; (with_reducible refine g2.mono ?_); rintro e w2 ⟨rfl, hi2⟩))
    go_ret
    exact ⟨rfl, hi2.out⟩
end Go.Proofs.YtfbeeaibejggdaaDoor
