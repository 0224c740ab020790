/- Cut on both sides; two answers compared. -/
import Derived.Test.YtfbeeaibejggdaaDoorN4
import Derived.Test.YtfbeeaibejggdaaDoorN7
import Derived.Test.YtfbeeaibejggdaaDoorJA
import Derived.StillTailTactics
import Derived.Outline
namespace Go.Proofs.YtfbeeaibejggdaaDoor
open Go.RowKit Go.Lib

theorem cut_any (t : T) (v : Value) (fr til : Int) (w : World) (hr : Rep w t v) (hl : HasLaid w) (hc : costT t ≤ 3000) : Calls Tryd.prog 31 #[v, .int .i64 fr, .int .i64 til] w (CutPost t fr til w) := by
  cases hv : validB t with
  | false => exact cut_bad t v fr til w hr hl hc hv
  | true =>
    by_cases hk : t.kind = 10
    · by_cases hx : fr < 0 ∨ til < fr ∨ 1000000000 < til
      · exact cut_range t v fr til w hr hl hc hv hk hx
      · obtain ⟨kd, n, s, keys, kids⟩ := t
        simp only [T.kind] at hk
        subst hk
        exact cut_good n s keys kids v fr til w hr hl hc hv (by omega) (by omega) (by omega)
    · exact cut_other t v fr til w hr hl hc hv hk
theorem refCut_any (t : T) (v : Value) (fr til : Int) (w : World) (hr : Rep w t v) (hc : costT t ≤ 3000) : Calls Tryd.prog 32 #[v, .int .i64 fr, .int .i64 til] w (CutPost t fr til w) := by
  cases hv : validB t with
  | false => exact refCut_bad t v fr til w hr hc hv
  | true =>
    by_cases hk : t.kind = 10
    · by_cases hx : fr < 0 ∨ til < fr ∨ 1000000000 < til
      · exact refCut_range t v fr til w hr hc hv hk hx
      · obtain ⟨kd, n, s, keys, kids⟩ := t
        simp only [T.kind] at hk
        subst hk
        exact refCut_good n s keys kids v fr til w hr hc hv (by omega) (by omega) (by omega)
    · exact refCut_other t v fr til w hr hc hv hk

set_option maxRecDepth 100000 in
set_option maxHeartbeats 1600000 in
theorem told_same (t : T) (va vb : Value) (e : Int) (w : World) (ha : Rep w t va) (hb : Rep w t vb) :
    Calls Tryd.prog 22 #[va, .int .i64 e, vb, .int .i64 e] w fun e w' => e = .returned (.bool true) ∧ Below w.heap.size w w' := by
  have hra := ha
  have hrb := hb
  obtain ⟨ka, xa, kc, xc, rfl, _, _, _, _, _, _, _⟩ := rep_agg ha
  obtain ⟨ka', xa', kc', xc', rfl, _, _, _, _, _, _, _⟩ := rep_agg hb
  have hi := In2.first w (.cells #[.int .i64 t.kind, .int .i64 t.n, .string t.s, .slice ka t.keys.length kc, .slice xa t.kids.length xc] 25) (.cells #[.int .i64 t.kind, .int .i64 t.n, .string t.s, .slice ka' t.keys.length kc', .slice xa' t.kids.length xc'] 25)
  have hm := refSame_any t t _ _ _ (Rep.mono hi.same _ _ hra) (Rep.mono hi.same _ _ hrb)
  rw [(sameT_iff t t).2 rfl] at hm
  go_enter Tryd.func22, Tryd.ntmps22
  go_wp2_with (go_at_call 19; refine hm.mono ?_; rintro e w1 ⟨rfl, hb1⟩)
  go_ret
  exact ⟨rfl, (hi.next hb1).out⟩

/-- How many times lie ahead of the end. -/
def aheadK (keys : List Int) : Nat → Nat
  | 0 => 0
  | k + 1 => aheadK keys k + (if keys.getD k 0 < 1000000000 then 1 else 0)
theorem cut_count (keys : List Int) (kids : List T) (til : Int) (h0 : ∀ j, j < keys.length → 0 ≤ keys.getD j 0) (h1 : til ≤ 1000000000) : ∀ k, k ≤ keys.length → k ≤ kids.length → (cutL keys kids 0 til k).length + (cutL keys kids til 1000000000 k).length = aheadK keys k
  | 0, _, _ => by simp [cutL, aheadK]
  | k + 1, h, h' => by
    have ih := cut_count keys kids til h0 h1 k (by omega) (by omega)
    have hk := h0 k (by omega)
    rw [cutL, cutL, aheadK, List.length_append, List.length_append, List.getElem?_eq_getElem (by omega)]
    unfold inB
    generalize keys.getD k 0 = x at *
    by_cases a : x < til
    · have e1 : (decide ((0 : Int) ≤ x) && decide (x < til)) = true := by simp; omega
      have e2 : (decide (til ≤ x) && decide (x < 1000000000)) = false := by simp; omega
      rw [e1, e2, if_pos (by omega : x < 1000000000)]
      simp
      omega
    · have e1 : (decide ((0 : Int) ≤ x) && decide (x < til)) = false := by simp; omega
      rw [e1]
      by_cases b : x < 1000000000
      · have e2 : (decide (til ≤ x) && decide (x < 1000000000)) = true := by simp; omega
        rw [e2, if_pos b]
        simp
        omega
      · have e2 : (decide (til ≤ x) && decide (x < 1000000000)) = false := by simp; omega
        rw [e2, if_neg b]
        simp
        omega
end Go.Proofs.YtfbeeaibejggdaaDoor
/- The law ValueTimes: its box; where the value is not looked at. -/
namespace Go.Proofs.YtfbeeaibejggdaaDoor
open Go.RowKit Go.Lib

/-- What lies behind the box. -/
def In1 (w : World) (X : Obj) (wr : World) : Prop := Below (w.heap.size + 1) (w.alloc X) wr
theorem In1.first (w : World) (X : Obj) : In1 w X (w.alloc X) := Below.refl _ _
theorem In1.next {w wr w1 : World} {X : Obj} (h : In1 w X wr) (hb : Below wr.heap.size wr w1) : In1 w X w1 := by
  have := Below.size h
  simp only [World.size_alloc] at this
  exact Below.trans h (hb.mono this)
theorem In1.alloc {w wr : World} {X : Obj} (h : In1 w X wr) (o : Obj) : In1 w X (wr.alloc o) := by
  have := Below.size h
  simp only [World.size_alloc] at this
  exact Below.alloc h this o
theorem In1.drew {w wr : World} {X : Obj} (h : In1 w X wr) : In1 w X wr.drew := Below.drew h
theorem In1.out {w wr : World} {X : Obj} (h : In1 w X wr) : Below w.heap.size w wr := box_out h
theorem In1.same {w wr : World} {X : Obj} (h : In1 w X wr) : Same w wr := Same.of_below h.out
theorem In1.cells {w wr : World} {x0 x1 x2 x3 x4 : Value} (h : In1 w (.cells #[x0, x1, x2, x3, x4] 25) wr) :
    wr.cell? ⟨w.heap.size, 0, none⟩ = some x0 ∧ wr.cell? ⟨w.heap.size, 1, none⟩ = some x1 ∧ wr.cell? ⟨w.heap.size, 2, none⟩ = some x2 ∧ wr.cell? ⟨w.heap.size, 3, none⟩ = some x3 ∧ wr.cell? ⟨w.heap.size, 4, none⟩ = some x4 := box_at h

set_option maxRecDepth 100000 in
set_option maxHeartbeats 1600000 in
theorem times_dark (t : T) (v : Value) (time fr til : Int) (w : World) (hr : Rep w t v) (hl : HasLaid w) (hc : decide (0 < weightT t 3000) = false) :
    Calls Tryd.prog 7 #[v, .int .i64 time, .int .i64 fr, .int .i64 til] w fun e w' => e = .returned (.bool true) ∧ Below w.heap.size w w' := by
  have hr0 := hr
  obtain ⟨ka, va, kc, vc, rfl, _, _, _, _, _, _, _⟩ := rep_agg hr
  have h8 := Lib.hid fun (wr : World) (hi : In1 w (.cells #[.int .i64 t.kind, .int .i64 t.n, .string t.s, .slice ka t.keys.length kc, .slice va t.kids.length vc] 25) wr) => (hc ▸ light_any t _ wr (Rep.mono hi.same _ _ hr0))
  have h9 := Lib.hid fun (wr : World) (hi : In1 w (.cells #[.int .i64 t.kind, .int .i64 t.n, .string t.s, .slice ka t.keys.length kc, .slice va t.kids.length vc] 25) wr) => awake_any wr (hl.mono hi.same)
  have hi0 := In1.first w (.cells #[.int .i64 t.kind, .int .i64 t.n, .string t.s, .slice ka t.keys.length kc, .slice va t.kids.length vc] 25)
  clear hc
  go_enter Tryd.func7, Tryd.ntmps7
  go_wp2_with (first
    | (go_at_call 8; (with_reducible refine (h8.out _ hi0).mono ?_); rintro e w1 ⟨rfl, hb1⟩; have hi1 := hi0.next hb1)
    | (go_at_call 9; (with_reducible refine (h9.out _ hi1).mono ?_); rintro e w2 ⟨rfl, hb2⟩; have hi2 := hi1.next hb2))
  go_ret
  exact ⟨rfl, hi2.out⟩

/-- Two answers in boxes of their own. -/
theorem two_answers {w5 w7 : World} {C : T} {p0 p1 p2 p3 p4 : Value} {y : Value} {Y : Obj} (hb : Below (w5.alloc (.cells #[p0, p1, p2, p3, p4] 25 (0, 0))).heap.size (w5.alloc (.cells #[p0, p1, p2, p3, p4] 25 (0, 0))) w7)
    (hx : Rep w5 C (.agg #[p0, p1, p2, p3, p4])) (hy : Rep w7 C y) : Rep (w7.alloc Y) C (.agg #[p0, p1, p2, p3, p4]) ∧ Rep (w7.alloc Y) C y ∧ (w7.alloc Y).heap[w5.heap.size]? = some (.cells #[p0, p1, p2, p3, p4] 25 (0, 0)) ∧ w5.heap.size < w7.heap.size := by
  have hs := hb.size
  simp only [World.size_alloc] at hs
  have h57 : Below w5.heap.size w5 w7 := ((Below.refl _ w5).alloc (Nat.le_refl _) _).trans (hb.mono (by simp))
  refine ⟨Rep.mono (Same.of_below (h57.alloc (by omega) Y)) _ _ hx, Rep.mono (same_alloc _ _) _ _ hy, ?_, by omega⟩
  rw [heap_alloc_old Y (by omega), hb.block _ (by simp), heap_alloc_new]

theorem at_short (t : T) (time : Int) (hc : costT t ≤ 3000) : (atV t time).1.length ≤ 3000 := by
  obtain ⟨hc1, hc2, _⟩ := cost_bounds t
  rw [atV]
  split
  · split
    · have := atL_len t.keys t.kids time t.keys.length
      simp only
      omega
    · simp
  · simp
theorem ahead_le (keys : List Int) : ∀ k, aheadK keys k ≤ k
  | 0 => by simp [aheadK]
  | k + 1 => by
    have := ahead_le keys k
    rw [aheadK]
    split <;> omega
theorem ahead_yes {keys : List Int} {k : Nat} {p : Int} (hp : Hid (keys.getD k 0 = p)) (h : p < 1000000000) : aheadK keys (k + 1) = aheadK keys k + 1 := by rw [aheadK, hp.out, if_pos h]
theorem ahead_no {keys : List Int} {k : Nat} {p : Int} (hp : Hid (keys.getD k 0 = p)) (h : ¬ p < 1000000000) : aheadK keys (k + 1) = aheadK keys k := by rw [aheadK, hp.out, if_neg h]; rfl
theorem box_kept {w5 w7 : World} {X Y : Obj} (hb : Below (w5.alloc X).heap.size (w5.alloc X) w7) : (w7.alloc Y).heap[w5.heap.size]? = some X := by
  have hs := hb.size
  simp only [World.size_alloc] at hs
  rw [heap_alloc_old Y (by omega), hb.block _ (by simp), heap_alloc_new]
theorem keys_nonneg {l : List Int} {high : Int} {strict : Bool} (h : keysB l high strict = true) : ∀ j, j < l.length → 0 ≤ l.getD j 0 := fun j hj => by
  have h1 := List.all_eq_true.1 h j (List.mem_range.2 hj)
  unfold okKey at h1
  simp only [Bool.and_eq_true, decide_eq_true_eq] at h1
  have := h1.1
  omega
end Go.Proofs.YtfbeeaibejggdaaDoor
/- The law ValueTimes at values that are looked at. -/
namespace Go.Proofs.YtfbeeaibejggdaaDoor
open Go.RowKit Go.Lib

set_option maxRecDepth 100000 in
set_option maxHeartbeats 3200000 in
theorem times_bad (t : T) (v : Value) (time fr til : Int) (w : World) (hr : Rep w t v) (hl : HasLaid w) (hlt : decide (0 < weightT t 3000) = true) (E2 : Int) (hE2 : (cutV t fr til).2 = E2) (hne : (E2 != 0) = true) :
    Calls Tryd.prog 7 #[v, .int .i64 time, .int .i64 fr, .int .i64 til] w fun e w' => e = .returned (.bool true) ∧ Below w.heap.size w w' := by
  have hr0 := hr
  have hc := light_cost hlt
  obtain ⟨ka, va, kc, vc, rfl, _, _, _, _, _, _, _⟩ := rep_agg hr
  obtain ⟨X, hX⟩ : ∃ X : Obj, X = .cells #[.int .i64 t.kind, .int .i64 t.n, .string t.s, .slice ka t.keys.length kc, .slice va t.kids.length vc] 25 (0, 0) := ⟨_, rfl⟩
  obtain ⟨L, hL⟩ : ∃ L, (atV t time).1 = L := ⟨_, rfl⟩
  obtain ⟨E1, hE1⟩ : ∃ E, (atV t time).2 = E := ⟨_, rfl⟩
  obtain ⟨C, hC⟩ : ∃ C, (cutV t fr til).1 = C := ⟨_, rfl⟩
  have h8 := Lib.hid fun (wr : World) (hi : In1 w X wr) => (hlt ▸ light_any t _ wr (Rep.mono hi.same _ _ hr0))
  have h9 := Lib.hid fun (wr : World) (hi : In1 w X wr) => awake_any wr (hl.mono hi.same)
  have h29 := Lib.hid fun (wr : World) (hi : In1 w X wr) => (at_any t _ time wr (Rep.mono hi.same _ _ hr0) (hl.mono hi.same) hc).mono (R' := fun e w' => ∃ a c, e = .returned (.tuple #[.slice a L.length c, .int .i64 E1]) ∧ KidsIn w' a 0 L ∧ In1 w X w') fun e w' ⟨a, c, h1, h2, h3⟩ => ⟨a, c, by rw [h1, hL, hE1], hL ▸ h2, hi.next h3⟩
  have h30 := Lib.hid fun (wr : World) (hi : In1 w X wr) => (refAt_any t _ time wr (Rep.mono hi.same _ _ hr0) hc).mono (R' := fun e w' => ∃ a c, e = .returned (.tuple #[.slice a L.length c, .int .i64 E1]) ∧ KidsIn w' a 0 L ∧ In1 w X w' ∧ Below wr.heap.size wr w') fun e w' ⟨a, c, h1, h2, h3⟩ => ⟨a, c, by rw [h1, hL, hE1], hL ▸ h2, hi.next h3, h3⟩
  have h31 := Lib.hid fun (wr : World) (hi : In1 w X wr) => (cut_any t _ fr til wr (Rep.mono hi.same _ _ hr0) (hl.mono hi.same) hc).mono (R' := fun e w' => ∃ qk qn qs qa qb qc qd qe qf, e = .returned (.tuple #[.agg #[.int .i64 qk, .int .i64 qn, .string qs, .slice qa qb qc, .slice qd qe qf], .int .i64 E2]) ∧ Rep w' C (.agg #[.int .i64 qk, .int .i64 qn, .string qs, .slice qa qb qc, .slice qd qe qf]) ∧ In1 w X w') fun e w' ⟨a1, a2, a3, a4, a5, a6, a7, a8, a9, h1, h2, h3⟩ => ⟨a1, a2, a3, a4, a5, a6, a7, a8, a9, by rw [h1, hE2], hC ▸ h2, hi.next h3⟩
  have h32 := Lib.hid fun (wr : World) (hi : In1 w X wr) => (refCut_any t _ fr til wr (Rep.mono hi.same _ _ hr0) hc).mono (R' := fun e w' => ∃ qk qn qs qa qb qc qd qe qf, e = .returned (.tuple #[.agg #[.int .i64 qk, .int .i64 qn, .string qs, .slice qa qb qc, .slice qd qe qf], .int .i64 E2]) ∧ Rep w' C (.agg #[.int .i64 qk, .int .i64 qn, .string qs, .slice qa qb qc, .slice qd qe qf]) ∧ In1 w X w' ∧ Below wr.heap.size wr w') fun e w' ⟨a1, a2, a3, a4, a5, a6, a7, a8, a9, h1, h2, h3⟩ => ⟨a1, a2, a3, a4, a5, a6, a7, a8, a9, by rw [h1, hE2], hC ▸ h2, hi.next h3, h3⟩
  have HC := Lib.hid fun (wr : World) (h : In1 w X wr) => In1.cells (hX ▸ h)
  have hll : L.length ≤ 3000 := by
    obtain ⟨hc1, hc2, _⟩ := cost_bounds t
    rw [← hL, atV]
    split
    · split
      · have := atL_len t.keys t.kids time t.keys.length
        simp only
        omega
      · simp
    · simp
  have hi0 := In1.first w X
  have hi0' : In1 w X (w.alloc (.cells #[.int .i64 t.kind, .int .i64 t.n, .string t.s, .slice ka t.keys.length kc, .slice va t.kids.length vc] 25)) := by rw [hX] at hi0 ⊢; exact hi0
  obtain ⟨x0, x1, x2, x3, x4⟩ := HC.out _ hi0'
  clear hX hi0 hlt hc hL hE1 hC hE2 hr hl hr0
  go_enter Tryd.func7, Tryd.ntmps7
  go_wp2_with (first
    | (go_at_call 8; (with_reducible refine (h8.out _ hi0').mono ?_); rintro e w1 ⟨rfl, hb1⟩; have hi1 := In1.next hi0' hb1; clear x0 x1 x2 x3 x4; obtain ⟨x0, x1, x2, x3, x4⟩ := HC.out _ hi1; skip)
    | (go_at_call 29; (with_reducible refine (h29.out _ hi1).mono ?_); rintro e w2 ⟨a1, c1, rfl, hk1, hi2⟩; clear x0 x1 x2 x3 x4; obtain ⟨x0, x1, x2, x3, x4⟩ := HC.out _ hi2; skip)
    | (go_at_call 30; (with_reducible refine (h30.out _ hi2).mono ?_); rintro e w3 ⟨a2, c2, rfl, hk2, hi3, hb3⟩; have hk1' := KidsIn.mono (Same.of_below hb3) _ _ _ hk1; clear x0 x1 x2 x3 x4; skip))
  go_loopw [13] (fun i wr => ∃ k : Nat, i = .int .i64 k ∧ k ≤ L.length ∧ KidsIn wr a1 0 L ∧ KidsIn wr a2 0 L ∧ In1 w X wr) (fun i _ => L.length - (intOf i).toNat)
  case atStart => exact ⟨0, rfl, Nat.zero_le _, hk1', hk2, hi3⟩
  case round =>
    clear hk1' hk2 hi3 hb3 hk1 hi2 hi1 hb1 hi0'
    obtain ⟨k, rfl, hk, hka, hkb, hi4⟩ := hrel
    by_cases hlt : k < L.length
    · obtain ⟨b, off, u0, u1, u2, u3, u4, rfl, g0, g1, g2, g3, g4, hr1⟩ := KidsIn.at L 0 k hlt hka
      obtain ⟨b', off', v0, v1, v2, v3, v4, rfl, f0, f1, f2, f3, f4, hr2⟩ := KidsIn.at L 0 k hlt hkb
      simp only [Nat.zero_add] at g0 g1 g2 g3 g4 f0 f1 f2 f3 f4
      have w4 : (k : Int) < (L.length : Int) := by omega
      have hih := refSame_any L[k] L[k] _ _ _ (Rep.mono (Same.of_below (Below.refl _ wr).drew) _ _ hr1) (Rep.mono (Same.of_below (Below.refl _ wr).drew) _ _ hr2)
      rw [(sameT_iff L[k] L[k]).2 rfl] at hih
      have hi5 := hi4.drew
      have hka5 := KidsIn.mono (Same.of_below (Below.refl _ wr).drew) _ _ _ hka
      have hkb5 := KidsIn.mono (Same.of_below (Below.refl _ wr).drew) _ _ _ hkb
      go_upto_region 10 with fail
      go_still_tail 8, (by kernel_rfl)
      change wpList _ _ _ _ _ wr.drew
      generalize wr.drew = w6 at *
      clear hka hkb hi4
      go_wp2_with (go_at_call 19; refine hih.mono ?_; rintro e w7 ⟨rfl, hb7⟩)
      go_roundw
      case rel => exact ⟨k + 1, by go_num, by omega, KidsIn.mono (Same.of_below hb7) _ _ _ hka5, KidsIn.mono (Same.of_below hb7) _ _ _ hkb5, hi5.next hb7⟩
      case measure => simp [intOf]; omega
    · obtain rfl : k = L.length := by omega
      obtain ⟨x0, x1, x2, x3, x4⟩ := HC.out _ hi4
      clear hka hkb hlt hk
      go_wp2_with (first
        | (go_at_call 31; (with_reducible refine (h31.out _ hi4).mono ?_); rintro e w5 ⟨pk, pn, ps, pa, pb, pc, pd, pe, pf, rfl, hx, hi5⟩; have hi6 := In1.alloc hi5 (.cells #[.int .i64 pk, .int .i64 pn, .string ps, .slice pa pb pc, .slice pd pe pf] 25 (0, 0)); clear x0 x1 x2 x3 x4; obtain ⟨x0, x1, x2, x3, x4⟩ := HC.out _ hi6; skip)
        | (go_at_call 32; (with_reducible refine (h32.out _ hi6).mono ?_); rintro e w7 ⟨qk, qn, qs, qa, qb, qc, qd, qe, qf, rfl, hy, hi7, hb7⟩; have hi8 := In1.alloc hi7 (.cells #[.int .i64 qk, .int .i64 qn, .string qs, .slice qa qb qc, .slice qd qe qf] 25 (0, 0)); obtain ⟨z1, z2, z3, z4⟩ := two_answers (Y := .cells #[.int .i64 qk, .int .i64 qn, .string qs, .slice qa qb qc, .slice qd qe qf] 25 (0, 0)) hb7 hx hy; have h22 := told_same C _ _ E2 _ z1 z2; clear x0 x1 x2 x3 x4; obtain ⟨⟨y0, y1, y2, y3, y4⟩, _⟩ := five_all z3; clear z1 z2 z3 z4; obtain ⟨x0, x1, x2, x3, x4⟩ := HC.out _ hi8; skip)
        | (go_at_call 22; (with_reducible refine h22.mono ?_); rintro e w9 ⟨rfl, hb9⟩; have hi9 := hi8.next hb9; clear y0 y1 y2 y3 y4 x0 x1 x2 x3 x4; obtain ⟨x0, x1, x2, x3, x4⟩ := HC.out _ hi9; skip)
        | (go_at_call 9; (with_reducible refine (h9.out _ hi9).mono ?_); rintro e w10 ⟨rfl, hb10⟩))
      go_ret
      exact ⟨rfl, (hi9.next hb10).out⟩
end Go.Proofs.YtfbeeaibejggdaaDoor
