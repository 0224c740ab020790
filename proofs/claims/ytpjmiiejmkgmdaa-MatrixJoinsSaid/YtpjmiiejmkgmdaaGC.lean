/- A matrix times rows: the sums of products. -/
import Derived.Test.YtpjmiiejmkgmdaaGB
namespace Go.Proofs.Ytpjmiiejmkgmdaa
open Go.RowKit Go.Deep Go.Shelf
attribute [local go_sem] Oper.semAt_some

/-- A weight that stands at a place of a matrix with r rows of k weights. -/
def FitWt (r k : Nat) (x : Wt) : Prop := x.1.1 < r ∧ x.1.2 < k ∧ x.2.natAbs ≤ 655360
theorem bd_of {x : Int} {B : Nat} (h : x.natAbs ≤ B) : -(B : Int) ≤ x ∧ x ≤ B := by omega
theorem int_cell {w w' : World} {aj : Option Addr} {l : List Int} (h : IntsIn w aj l) (hb : Below w.heap.size w w') : IntsIn w' aj l := h.mono (Same.of_below hb)

/-- The numbers of the sums when q samples more of the row's part are added. -/
def partF (b : List (List Int)) (pre : List Wt) (i k : Nat) (wt : Int) (q : Nat) (j f : Nat) : Int := accW b pre j f + if i = j ∧ f < q then wt * cellM b k f else 0
theorem partF_zero (b : List (List Int)) (pre : List Wt) (i k : Nat) (wt : Int) (j f : Nat) : partF b pre i k wt 0 j f = accW b pre j f := by simp [partF]
theorem partF_full {b : List (List Int)} {pre : List Wt} {i k : Nat} {wt : Int} {c j f : Nat} (hf : f < c) : partF b pre i k wt c j f = accW b (pre ++ [((i, k), wt)]) j f := by
  rw [accW_snoc]; simp [partF, hf]
theorem Gr.step {N r c : Nat} {W : World} {b : List (List Int)} {pre : List Wt} {i k q : Nat} {wt : Int} (h : Gr N r c (partF b pre i k wt q) W) (hi : i < r) :
    Gr N r c (partF b pre i k wt (q + 1)) (W.setCell ⟨N + 1 + i, q, none⟩ (.int .i64 (accW b pre i q + wt * cellM b k q))) := by
  refine (h.set hi q _).congr fun j f hj hf => ?_
  unfold partF
  by_cases e : j = i ∧ f = q
  · obtain ⟨rfl, rfl⟩ := e
    simp
  · rw [if_neg e]
    by_cases e2 : i = j ∧ f < q
    · rw [if_pos e2, if_pos (by omega)]
    · rw [if_neg e2, if_neg (by omega)]

theorem grownBy_setCell'' (W : World) (p : Addr) (v : Value) : W.grownBy (W.setCell p v) (some p.block) :=
  ⟨rfl, rfl, rfl, by simp, fun k _ hk => blk_setCell_other _ _ _ _ (fun e => hk (by rw [e]))⟩
theorem rowIs_two (W : World) (x y : Value) (t : TypeId) : (W.alloc (.cells #[x, y] t)).rowIs W.heap.size t 2 (fun j => if j = 0 then x else y) := by
  refine World.rowIs_alloc W #[x, y] t _ fun i hi => ?_
  match i, hi with
  | 0, _ => rfl
  | 1, _ => rfl

set_option maxHeartbeats 8000000 in
set_option maxRecDepth 100000 in
theorem times_any (m b : List (List Int)) (a b0 : Option Addr) (ca cb : Nat) (c : Nat) (w : World) (hr : m.length ≤ 8) (hc : c ≤ 4096)
    (hM : MatIn w m (.slice a m.length ca)) (hB : MatIn w b (.slice b0 b.length cb)) (hk8 : b.length ≤ 8) (hmc : ∀ j, j < m.length → (m.getD j []).length = b.length) (hbc : ∀ j, j < b.length → (b.getD j []).length = c)
    (hmb : ∀ j k, ((m.getD j []).getD k 0).natAbs ≤ 655360) (hbb : ∀ k f, (cellM b k f).natAbs ≤ 8388607) :
    Calls Try.prog 63 #[.agg #[.int .i64 m.length, .int .i64 b.length, .slice a m.length ca], .slice b0 b.length cb, .int .i64 c] w fun e w' =>
      e = .returned (.slice (some ⟨w.heap.size + 1 + 1, 0, none⟩) m.length m.length) ∧ Gr (w.heap.size + 1 + 1) m.length c (fun i f => dotTo (m.getD i []) b f (m.getD i []).length) w' ∧ Below w.heap.size w w' := by
  have HMC := Lib.hid hmc
  have HBC := Lib.hid hbc
  have HMB := Lib.hid hmb
  have HBB := Lib.hid hbb
  have hc8 : ∀ j, (m.getD j []).length ≤ 8 := fun j => by
    by_cases h : j < m.length
    · rw [hmc j h]; exact hk8
    · simp [List.getD, List.getElem?_eq_none (show m.length ≤ j by omega)]
  have hfit : ∀ j k, j < m.length → k < (m.getD j []).length → FitWt m.length b.length ((j, k), (m.getD j []).getD k 0) := fun j k hj hk => ⟨hj, by rw [← hmc j hj]; exact hk, hmb j k⟩
  have HC8 := Lib.hid hc8
  have HFIT := Lib.hid hfit
  have HMM := Lib.hid hM
  have HBM := Lib.hid hB
  clear hmc hbc hmb hbb hc8 hfit hM hB
  refine (callsIn_wide (n := 6)).1 ?_
  refine callsIn_of_wp_marks Try.func63 rfl trivial ?_ rfl
  simp only [Try.ntmps63, List.size_toArray, List.length_cons, List.length_nil, Nat.reduceAdd, Nat.reduceSub, Array.replicate_succ, Array.replicate_zero, List.push_toArray, List.append_toArray, List.nil_append, List.cons_append]
  gi_wp2
  try refine ⟨trivial, ?_⟩
  refine (callsIn_wide.2 (zeros_gr m.length c hr hc _)).mono ?_
  rintro e w1 ⟨rfl, hg, hb⟩
  have c0 : w1.cell? ⟨w.heap.size, 0, none⟩ = some (.int .i64 m.length) := by rw [hb.cell (by simp; omega)]; simp [go_sem]
  have c1 : w1.cell? ⟨w.heap.size, 1, none⟩ = some (.int .i64 b.length) := by rw [hb.cell (by simp; omega)]; simp [go_sem]
  have c2 : w1.cell? ⟨w.heap.size, 2, none⟩ = some (.slice a m.length ca) := by rw [hb.cell (by simp; omega)]; simp [go_sem]
  have c3 : Boxed w1 (w.heap.size + 1) 24 (.slice b0 b.length cb) := by
    have h0 := Boxed.new (w.alloc (.cells #[.int .i64 m.length, .int .i64 b.length, .slice a m.length ca] 79)) 24 (.slice b0 b.length cb)
    rw [World.size_alloc] at h0
    exact (hb.block _ (by simp)).trans h0
  have hlt : w.heap.size + 1 + 1 + m.length < w1.heap.size := by
    simp only [World.size_alloc] at hg
    by_cases h : m.length = 0
    · have := hg.top.lt; omega
    · have := (hg.rows (m.length - 1) (by omega)).lt; omega
  have hbw : Below w.heap.size w w1 := (((Below.refl _ w).alloc (Nat.le_refl _) _).alloc (by simp) _).trans (hb.mono (by simp; omega))
  have d0 := (Same.alloc w1 (.cells #[.slice (some ⟨w.heap.size + 1 + 1, 0, none⟩) m.length m.length] 24)).cell c0
  have d1 := (Same.alloc w1 (.cells #[.slice (some ⟨w.heap.size + 1 + 1, 0, none⟩) m.length m.length] 24)).cell c1
  have d2 := (Same.alloc w1 (.cells #[.slice (some ⟨w.heap.size + 1 + 1, 0, none⟩) m.length m.length] 24)).cell c2
  simp only [World.size_alloc] at hg
  have HG := Lib.hid hg
  have HB := Lib.hid hbw
  have C3 := Lib.hid c3
  clear hg hb c0 c1 c2 c3 hbw
  gi_wp2
  try refine ⟨trivial, ?_⟩
  refine (all_in _ _ trivial rfl _ _ _ rfl _).mono ?_
  rintro e w2 ⟨rfl, rfl⟩
  clear d0 d1 d2
  gi_wp2
  have bS := (Boxed.new w1 24 (.slice (some ⟨w.heap.size + 1 + 1, 0, none⟩) m.length m.length)).alloc (.cells #[.int .i64 m.length, .int .i64 b.length, .slice a m.length ca] 79)
  have bB := (C3.out.alloc (.cells #[.slice (some ⟨w.heap.size + 1 + 1, 0, none⟩) m.length m.length] 24)).alloc (.cells #[.int .i64 m.length, .int .i64 b.length, .slice a m.length ca] 79)
  have gG := (HG.out.alloc (.cells #[.slice (some ⟨w.heap.size + 1 + 1, 0, none⟩) m.length m.length] 24)).alloc (.cells #[.int .i64 m.length, .int .i64 b.length, .slice a m.length ca] 79)
  have hB0 : Below w.heap.size w ((w1.alloc (.cells #[.slice (some ⟨w.heap.size + 1 + 1, 0, none⟩) m.length m.length] 24)).alloc (.cells #[.int .i64 m.length, .int .i64 b.length, .slice a m.length ca] 79)) :=
    (HB.out.alloc (by omega) _).alloc (by simp; omega) _
  have cM : ((w1.alloc (.cells #[.slice (some ⟨w.heap.size + 1 + 1, 0, none⟩) m.length m.length] 24)).alloc (.cells #[.int .i64 m.length, .int .i64 b.length, .slice a m.length ca] 79)).cell? ⟨w1.heap.size + 1, 2, none⟩ = some (.slice a m.length ca) := by simp [go_sem]
  have hsz : ((w1.alloc (.cells #[.slice (some ⟨w.heap.size + 1 + 1, 0, none⟩) m.length m.length] 24)).alloc (.cells #[.int .i64 m.length, .int .i64 b.length, .slice a m.length ca] 79)).heap.size = w1.heap.size + 2 := by simp
  obtain ⟨W0, hW0⟩ : ∃ W0, (w1.alloc (.cells #[.slice (some ⟨w.heap.size + 1 + 1, 0, none⟩) m.length m.length] 24)).alloc (.cells #[.int .i64 m.length, .int .i64 b.length, .slice a m.length ca] 79) = W0 := ⟨_, rfl⟩
  rw [hW0] at bS bB gG hB0 cM hsz ⊢
  clear hW0
  refine wpIn_rangeFunc_ownH rfl (by omega) (gf := 78) (lb := #[.pointer (some ⟨w1.heap.size + 1, 0, none⟩)]) rfl trivial (enters_of Try.func78 (by kernel_rfl) rfl)
    (all_stops Fence.wide _ trivial rfl (by omega) (w1.heap.size + 1) m _ w HMM.out hr HC8.out (FitWt m.length b.length) HFIT.out W0 hB0 (by omega) cM) belowK_t (belowK_b (by omega)) (Below.refl _ _) (fun _ => rfl)
    (fun pre W => ((Boxed W w1.heap.size 24 (.slice (some ⟨w.heap.size + 1 + 1, 0, none⟩) m.length m.length) ∧ Boxed W (w.heap.size + 1) 24 (.slice b0 b.length cb)) ∧ Gr (w.heap.size + 1 + 1) m.length c (accW b (pre.map Subtype.val)) W) ∧ Below w.heap.size w W)
    (fun _ _ _ => False)
    (OwnFrom.and (OwnFrom.and (OwnFrom.and (Own.from (boxed_own _ _ _) _) (Own.from (boxed_own _ _ _) _)) (fun s X Y row hs hg hr => hs.own hg fun r e => (hr r e).2)) (ownFrom_below (Nat.le_refl _) (by omega)))
    (fun _ _ _ _ _ hs _ _ => hs)
    ⟨⟨⟨bS, bB⟩, gG.congr fun _ _ _ _ => by simp [accW]⟩, hB0⟩
    (fun x a' W => ∃ Bx, w1.heap.size < Bx ∧ W.rowIs Bx 83 2 (fun j => if j = 0 then .int .i64 x.1.1.1 else .int .i64 x.1.1.2) ∧ a' = { tmps := #[.agg #[.int .i64 m.length, .int .i64 b.length, .slice a m.length ca], .slice b0 b.length cb, .int .i64 c, .pointer (some ⟨w.heap.size, 0, none⟩), .pointer (some ⟨w.heap.size + 1, 0, none⟩), undef, .slice none 0 0, .pointer (some ⟨w1.heap.size, 0, none⟩), .pointer (some ⟨Bx, 0, none⟩), .int .i64 x.1.2, undef, undef, undef, .pointer (some ⟨w.heap.size, 0, none⟩), .pointer (some ⟨w.heap.size, 0, none⟩), .int .i64 m.length, .int .i64 c, .slice (some ⟨w.heap.size + 1 + 1, 0, none⟩) m.length m.length, .agg #[.int .i64 m.length, .int .i64 b.length, .slice a m.length ca], .func (.func 78) #[] #[.pointer (some ⟨w1.heap.size + 1, 0, none⟩)], .agg #[.int .i64 x.1.1.1, .int .i64 x.1.1.2], .int .i64 x.1.2, undef, undef, undef, undef, undef, undef, undef, undef, undef, undef, undef, undef, undef, undef, undef, undef, undef, undef, undef, undef, undef, undef, undef, undef, undef, undef, undef], defers := [] })
    (fun x a' _ X Y row hs hg hr => by obtain ⟨Bx, h1, h2, h3⟩ := hs; exact ⟨Bx, h1, rowIs_own h2 hg (fun r e => (hr r e).2), h3⟩)
    ?assign ?body ?done ?stop
  case assign =>
    rintro l pre x W K ⟨⟨⟨bS1, bB1⟩, gG1⟩, hB1⟩ hK
    dsimp only [wtVals]
    gi_wp2
    exact hK _ _ ((KeepsOthers.alloc _ _).from _) ((Below.refl _ W).alloc hB1.size _) ⟨⟨⟨bS1.alloc _, bB1.alloc _⟩, gG1.alloc _⟩, hB1.alloc hB1.size _⟩ ⟨W.heap.size, bS1.lt, rowIs_two W _ _ 83, rfl⟩
  case body =>
    rintro l pre ⟨⟨⟨i, k⟩, wt⟩, hfi⟩ a' W hl ⟨r, hr'⟩ ⟨⟨⟨bS1, bB1⟩, gG1⟩, hB1⟩ ⟨Bx, hBx, bX, rfl⟩ hlt'
    obtain ⟨hi, hk, hw⟩ := hfi
    simp only at hi hk hw bX
    have cX0 := bX.cell (i := 0) (by omega)
    have cX1 := bX.cell (i := 1) (by omega)
    simp only [if_true, Nat.one_ne_zero, if_false] at cX0 cX1
    have cS := bS1.cell
    have cB := bB1.cell
    have cT := gG1.top.cell hi
    rw [show topZ (w.heap.size + 1 + 1) c m.length i = .slice (some ⟨w.heap.size + 1 + 1 + 1 + i, 0, none⟩) c c by simp [topZ, hi]] at cT
    obtain ⟨a2, cb2, e2, hin2, _, _⟩ := HBM.out
    simp only [Value.slice.injEq, true_and] at e2
    obtain ⟨rfl, rfl⟩ := e2
    obtain ⟨bb, ob, u, rfl, hcu, hu⟩ := hin2 k hk
    obtain ⟨au, cu, rfl, hinu, _, _⟩ := hu
    have cU := (Same.of_below hB1).cell hcu
    rw [HBC.out k hk] at cU
    have hiI : (i : Int) < (m.length : Int) := by omega
    have hkI : (k : Int) < (b.length : Int) := by omega
    have HIU := Lib.hid hinu
    have HLU := Lib.hid (HBC.out k hk)
    have GG := Lib.hid gG1
    have BS := Lib.hid bS1
    have BB := Lib.hid bB1
    have HB1 := Lib.hid hB1
    clear hcu hin2 hinu bX gG1 bS1 bB1
    gi_wp2
    gi_loopw [33] (fun p wr => ∃ q : Nat, q ≤ c ∧ p = .int .i64 q ∧ ((Gr (w.heap.size + 1 + 1) m.length c (partF b (pre.map Subtype.val) i k wt q) wr ∧ Boxed wr w1.heap.size 24 (.slice (some ⟨w.heap.size + 1 + 1, 0, none⟩) m.length m.length)) ∧ Boxed wr (w.heap.size + 1) 24 (.slice (some ⟨bb, ob, none⟩) b.length cb)) ∧ (Below w.heap.size w wr ∧ KeepsOthers W wr) ∧ Below w.heap.size W wr)
      (fun p _ => c - (intOf p).toNat)
    case atStart => exact ⟨0, Nat.zero_le _, rfl, ⟨⟨GG.out.congr fun _ _ _ _ => (partF_zero ..).symm, BS.out⟩, BB.out⟩, ⟨HB1.out, KeepsOthers.refl _⟩, Below.refl _ _⟩
    case round =>
      obtain ⟨q, hq, rfl, ⟨⟨gr, bs⟩, bbx⟩, ⟨hbw, hko⟩, hbW⟩ := hrel
      clear cX0 cX1 cS cB cT cU
      by_cases hlt2 : q < c
      · have hL := HLU.out
        obtain ⟨bu, ou, rfl, hcq, _⟩ := (HIU.out.mono (Same.of_below hbw)) q (by omega)
        have hgc := (gr.rows i hi).cell hlt2
        have hgf := (gr.rows i hi).frozen q
        have e0 : partF b (pre.map Subtype.val) i k wt q i q = accW b (pre.map Subtype.val) i q := by simp [partF]
        rw [e0] at hgc
        have hyb := HBB.out k q
        have hpr := bd_of (abs_mul hw hyb)
        have hac := bd_of (accW_abs HBB.out i q (pre.map Subtype.val) (fun y hy => by
          obtain ⟨z, _, rfl⟩ := List.mem_map.1 hy
          exact z.2.2.2))
        have hac2 : (pre.map Subtype.val).length < 100 := by simpa using hlt'
        have HS := Lib.hid (gr.step hi)
        change wr.cell? _ = some (.int .i64 (cellM b k q)) at hcq
        obtain ⟨y, hy⟩ : ∃ y, cellM b k q = y := ⟨_, rfl⟩
        obtain ⟨s, hs⟩ : ∃ s, accW b (pre.map Subtype.val) i q = s := ⟨_, rfl⟩
        rw [hy] at hcq hpr HS
        rw [hs] at hgc hac HS
        have hs1 : -549755748352000 ≤ s := by have := hac.1; omega
        have hs2 : s ≤ 549755748352000 := by have := hac.2; omega
        obtain ⟨hp1, hp2⟩ := hpr
        have w5 : (q : Int) < (c : Int) := by omega
        have GR := Lib.hid gr
        have BS2 := Lib.hid bs
        have BB2 := Lib.hid bbx
        have HBW := Lib.hid hbw
        have HKO := Lib.hid hko
        have HBW2 := Lib.hid hbW
        clear hL e0 hy hs hac hac2 hyb gr bs bbx hbw hko hbW
        gi_wp2
        have hne1 : w1.heap.size ≠ w.heap.size + 1 + 1 + 1 + i := by omega
        exact ⟨⟨q + 1, by omega, by go_num, ⟨⟨HS.out, BS2.out.kept (grownBy_setCell'' _ _ _) (by simp; omega)⟩, BB2.out.kept (grownBy_setCell'' _ _ _) (by simp; omega)⟩,
          ⟨HBW.out.setCell (by show w.heap.size ≤ w.heap.size + 1 + 1 + 1 + i; omega) _, HKO.out.trans (KeepsOthers.setCell _ _ _)⟩, HBW2.out.setCell (by show w.heap.size ≤ w.heap.size + 1 + 1 + 1 + i; omega) _⟩, by simp [intOf]; omega⟩
      · obtain rfl : q = c := by omega
        gi_wp2
        exact ⟨hko.from _, hbW, ⟨⟨⟨bs, bbx⟩, gr.congr fun j f _ hf => by rw [partF_full hf]; simp⟩, hbw⟩⟩
  case done =>
    rintro D ys W hD hys ⟨⟨⟨bS1, bB1⟩, gG1⟩, hB1⟩ hK
    have cS := bS1.cell
    gi_wp2
    refine ⟨by simp, .inl ⟨_, _, rfl, run_takeDeferred hK, ?_⟩⟩
    refine ⟨_, results_tmp rfl _ _ _, rfl, ?_, hB1.trans (belowK_b (w := w) (Nat.le_refl _) W D _ _ (by omega) hK rfl rfl)⟩
    refine (gG1.own (grownBy_putObj' W D _) fun r e => by cases e; exact ⟨_, hK, rfl⟩).congr fun j f hj hf => ?_
    rw [hys, accW_to, if_pos hj]
  case stop =>
    rintro D c pre W _ _ h _
    exact h.elim
end Go.Proofs.Ytpjmiiejmkgmdaa
