/- A block's samples, spot by spot. -/
import Derived.Test.YtegomicpolnpoaaUA
import Derived.Test.YtegomicpolnpoaaUB
import Derived.Test.YtegomicpolnpoaaUC
import Derived.Test.YtegomicpolnpoaaNI
namespace Go.Proofs.Ytegomicpolnpoaa
open Go.RowKit Go.Shelf
attribute [local go_sem] Oper.semAt_some

/-- The sample at a spot; a spot and its sample. -/
def smpAt (m : List (List Int)) (x : Nat × Nat) : Int := (m.getD x.1 []).getD x.2 0
def smpVals (m : List (List Int)) (x : Nat × Nat) : Array Value := #[.agg #[.int .i64 x.1, .int .i64 x.2], .int .i64 (smpAt m x)]

set_option maxRecDepth 100000 in
theorem spots_any (x y : Value) (w : World) : Calls Try.prog 81 #[.agg #[x, y]] w fun e w' => e = .returned (.func (.func 116) #[] #[.pointer (some ⟨w.heap.size, 0, none⟩)]) ∧ w' = w.alloc (.cells #[x, y] 87) := by
  have hmf : ∀ (fn : Fn) (first cap : Array Value) (w : World), (Instr.makeFunc fn first cap).run Try.prog w = .ok (.func fn first cap) w := fun _ _ _ _ => rfl
  go_enter Try.func81, Try.ntmps81
  go_wp2_with fail
  go_ret
  exact ⟨rfl, rfl⟩

theorem cells2_own {β : Type} (B : Nat) (x y : Value) : Own (fun (_ : β) W => W.cell? ⟨B, 0, none⟩ = some x ∧ W.cell? ⟨B, 1, none⟩ = some y) := fun _ X Y row hs hg hr =>
  ⟨cell_kept hs.1 hg hr, cell_kept hs.2 hg hr⟩
theorem cell_own {β : Type} (B : Nat) (x : Value) : Own (fun (_ : β) W => W.cell? ⟨B, 0, none⟩ = some x) := fun _ X Y row hs hg hr => cell_kept hs hg hr

set_option maxHeartbeats 4000000 in
set_option maxRecDepth 100000 in
theorem samples_all (n : Nat) (hn : 6 ≤ n) (m : List (List Int)) (va : Value) (Bb n0 Bd : Nat) (w : World) (h1 : 1 ≤ m.length) (h8 : m.length ≤ 8) (c : Nat) (hc : ∀ j, j < m.length → (m.getD j []).length = c) (hcT : c ≤ 4096)
    (hm : ∀ X, Below n0 w X → MatIn X m va) (hn0 : n0 ≤ w.heap.size) (hnd : n0 ≤ Bd) (hBd : Bd ≤ Bb) (hBb : Bb < w.heap.size) (kb : w.cell? ⟨Bb, 0, none⟩ = some va) :
    SeqAll Fence.wide n Try.prog 120 #[.pointer (some ⟨Bb, 0, none⟩)] (fun x : GoodSpot m.length c => smpVals m x.1) (KpB n0 Bd) (fun ys => ys.map Subtype.val = spTo m.length c) 40000 w := by
  intro l J W hW hJ hY h0
  have HY := Lib.hid hY
  have HJ := Lib.hid hJ
  have HM := Lib.hid hm
  have HC := Lib.hid hc
  have hkb : W.cell? ⟨Bb, 0, none⟩ = some va := (hW.cell (p := ⟨Bb, 0, none⟩) hBb).trans kb
  have HW := Lib.hid (hW.mono hn0)
  have hsz := hW.size
  have h109 : ∀ X, Below n0 w X → Calls Try.prog 109 #[va] X fun e w' => e = .returned (.agg #[.int .i64 m.length, .int .i64 c]) ∧ Below X.heap.size X w' := fun X hX => by
    have := gridOf_any (hm X hX) h1 h8 (by rw [hc 0 (by omega)]; exact hcT)
    rwa [hc 0 (by omega)] at this
  have H109 := Lib.hid h109
  clear hY hJ hm hc h109 hW kb
  refine callsIn_of_wp_marks Try.func120 rfl trivial ?_ rfl
  simp only [Try.ntmps120, List.size_toArray, List.length_cons, List.length_nil, Nat.reduceAdd, Nat.reduceSub, Array.replicate_succ, Array.replicate_zero, List.push_toArray, List.append_toArray, List.nil_append, List.cons_append]
  have hkb0 : ∀ Z, (W.alloc Z).cell? ⟨Bb, 0, none⟩ = some va := fun Z => (Same.alloc _ Z).cell hkb
  gi_wp2
  try refine ⟨trivial, ?_⟩
  refine ⟨fun _ => by omega, ?_⟩
  have hyf : (W.alloc (.cells #[.func (.yield l) #[] #[]] 131)).cell? ⟨W.heap.size, 0, none⟩ = some (.func (.yield l) #[] #[]) := by simp [go_sem]
  have hkc := hkb0 (.cells #[.func (.yield l) #[] #[]] 131)
  have hWZ := HW.out.alloc (by omega) (.cells #[.func (.yield l) #[] #[]] 131)
  have hJZ : J [] (W.alloc (.cells #[.func (.yield l) #[] #[]] 131)) := HJ.out.alloc _ h0
  have hszZ : (W.alloc (.cells #[.func (.yield l) #[] #[]] 131)).heap.size = W.heap.size + 1 := by simp
  generalize (W.alloc (.cells #[.func (.yield l) #[] #[]] 131)) = Z at *
  refine (callsIn_wide.2 (H109.out _ hWZ)).mono ?_
  rintro e w1 ⟨rfl, hb1⟩
  have hb1' := hb1.mono (show n0 ≤ Z.heap.size by omega)
  have hs1 := hb1.size
  have hy1 : w1.cell? ⟨W.heap.size, 0, none⟩ = some (.func (.yield l) #[] #[]) := (hb1.cell (p := ⟨W.heap.size, 0, none⟩) (by simp; omega)).trans hyf
  have hk1 : w1.cell? ⟨Bb, 0, none⟩ = some va := (hb1.cell (p := ⟨Bb, 0, none⟩) (by simp; omega)).trans hkc
  have hJ1 : J [] w1 := HJ.out [] Z w1 none hJZ ⟨hb1.os, hb1.tape, hb1.output, hb1.size, fun k hk _ => hb1.block k hk⟩ (fun r e => by cases e)
  have hW1 : Below n0 w w1 := hWZ.trans hb1'
  clear hb1 hb1' hJZ hWZ hkc hyf hkb0 hkb
  gi_wp2
  try refine ⟨trivial, ?_⟩
  refine ⟨fun _ => by omega, ?_⟩
  refine (callsIn_wide.2 (spots_any _ _ _)).mono ?_
  rintro e w2 ⟨rfl, rfl⟩
  gi_wp2
  have q0 : (w1.alloc (.cells #[.int .i64 m.length, .int .i64 c] 87)).cell? ⟨w1.heap.size, 0, none⟩ = some (.int .i64 m.length) := by simp [go_sem]
  have q1 : (w1.alloc (.cells #[.int .i64 m.length, .int .i64 c] 87)).cell? ⟨w1.heap.size, 1, none⟩ = some (.int .i64 c) := by simp [go_sem]
  have hy2 := (Same.alloc w1 (.cells #[.int .i64 m.length, .int .i64 c] 87)).cell hy1
  have hk2 := (Same.alloc w1 (.cells #[.int .i64 m.length, .int .i64 c] 87)).cell hk1
  have hJ2 : J [] (w1.alloc (.cells #[.int .i64 m.length, .int .i64 c] 87)) := HJ.out.alloc _ hJ1
  have hW2 : Below n0 w (w1.alloc (.cells #[.int .i64 m.length, .int .i64 c] 87)) := hW1.alloc (by omega) _
  have hs2 : (w1.alloc (.cells #[.int .i64 m.length, .int .i64 c] 87)).heap.size = w1.heap.size + 1 := by simp
  generalize (w1.alloc (.cells #[.int .i64 m.length, .int .i64 c] 87)) = W0 at *
  generalize hBg : w1.heap.size = Bg at *
  clear hy1 hk1 hJ1 hW1
  have hww : W.heap.size + 2 ≤ W0.heap.size := by omega
  have narrow : OwnFrom W0.heap.size J := fun s X Y row hs hg hr => HJ.out s X Y row hs hg fun r e => ⟨by have := (hr r e).1; omega, (hr r e).2⟩
  refine wpIn_rangeFunc_ownH rfl (by omega) (gf := 116) (lb := #[.pointer (some ⟨Bg, 0, none⟩)]) rfl trivial (enters_of Try.func116 (by kernel_rfl) rfl)
    (spots_stops Fence.wide (n - 1) trivial rfl (by omega) Bg m.length c h8 hcT (KpB n0 Bd) (fun X Y i v h hc => h.cell (by omega) hc) W0 (by omega) q0 q1) (fun h k => h.trans k) (fun X l o o' hl h hc _ => KpB.put (B := W0.heap.size) (by omega) X l o o' hl h hc) (Below.refl _ _) (fun _ => rfl)
    (fun pre X => J pre X ∧ ((X.cell? ⟨Bb, 0, none⟩ = some va ∧ X.cell? ⟨W.heap.size, 0, none⟩ = some (.func (.yield l) #[] #[])) ∧ Below n0 w X))
    (fun _ _ _ => False)
    (OwnFrom.and narrow (OwnFrom.and (OwnFrom.and (Own.from (cell_own _ _) _) (Own.from (cell_own _ _) _)) (ownFrom_below hn0 (by omega))))
    (fun _ _ _ _ _ hs _ _ => hs)
    ⟨hJ2, ⟨hk2, hy2⟩, hW2⟩
    (fun x a' X => ∃ Bx, (X.cell? ⟨Bx, 0, none⟩ = some (.int .i64 x.1.1) ∧ X.cell? ⟨Bx, 1, none⟩ = some (.int .i64 x.1.2)) ∧ a' = { tmps := #[.func (.yield l) #[] #[], .pointer (some ⟨Bb, 0, none⟩), .pointer (some ⟨W.heap.size, 0, none⟩), .pointer (some ⟨Bx, 0, none⟩), va, .agg #[.int .i64 m.length, .int .i64 c], .func (.func 116) #[] #[.pointer (some ⟨Bg, 0, none⟩)], .agg #[.int .i64 x.1.1, .int .i64 x.1.2], undef, undef, undef, undef, undef, undef, undef, undef, undef, undef, undef, undef, undef], defers := [] })
    (fun x a' _ X Y row hs hg hr => by obtain ⟨Bx, h2, h3⟩ := hs; exact ⟨Bx, cells2_own Bx _ _ () X Y row h2 hg (fun r e => (hr r e).2), h3⟩)
    ?assign ?body ?done ?stop
  case assign =>
    rintro l pre x X K ⟨hj, ⟨hb, hy⟩, hB⟩ hK
    dsimp only [spotVals]
    have hsX := hB.size
    have hlt := cell_lt hy
    simp only at hlt
    gi_wp2
    refine hK _ _ ((KeepsOthers.alloc _ _).from _) (KpB.alloc _ _ (by omega)) ⟨HJ.out.alloc _ hj, ⟨(Same.alloc _ _).cell hb, (Same.alloc _ _).cell hy⟩, hB.alloc (by omega) _⟩ ⟨X.heap.size, ⟨by simp [go_sem], by simp [go_sem]⟩, rfl⟩
  case body =>
    rintro l2 pre x a' X hl ⟨r, hr⟩ ⟨hj, ⟨hb, hy⟩, hB⟩ ⟨Bx, ⟨cx0, cx1⟩, rfl⟩ hlen
    obtain ⟨⟨i, k⟩, hi, hk⟩ := x
    simp only at hi hk cx0 cx1
    obtain ⟨a2, cap2, rfl, hrows, hml, hmc⟩ := HM.out X hB
    obtain ⟨b1, off1, v1, rfl, hc1, hr1⟩ := hrows i hi
    obtain ⟨a3, cap3, rfl, hints, hl1, hl2⟩ := hr1
    obtain ⟨b2, off2, rfl, hc2, hI2⟩ := hints k (by rw [HC.out i hi]; exact hk)
    have hlc := HC.out i hi
    have w1 : decide ((i : Int) < (m.length : Int)) = true := decide_eq_true (by omega)
    have w2 : decide (i < m.length) = true := decide_eq_true hi
    have w3 : decide ((k : Int) < (c : Int)) = true := decide_eq_true (by omega)
    have w4 : decide (k < c) = true := decide_eq_true hk
    have w5 : (i : Int) < (m.length : Int) := by omega
    have w6 : (k : Int) < (c : Int) := by omega
    rw [hlc] at hc1 hl1 hl2
    have hYX := HY.out pre ⟨(i, k), hi, hk⟩ X hj hlen
    have hYD := HY.out pre ⟨(i, k), hi, hk⟩ X.drew (HJ.out pre X _ none hj ⟨rfl, rfl, rfl, Nat.le_refl _, fun _ _ _ => rfl⟩ (fun r e => by cases e)) hlen
    have hYD := yieldAt_round (l' := l2) (m' := n - 1 - 1 - 1) rfl hYD
    have hYX := yieldAt_round (l' := l2) (m' := n - 1 - 1 - 1) rfl hYX
    unfold smpVals smpAt at hYD hYX
    dsimp only at hYD hYX
    generalize hsv : (m.getD i []).getD k 0 = sv at *
    obtain ⟨fn, tmps, assign, body, hyy, hRR⟩ := hYD
    obtain ⟨fn', tmps', assign', body', hyy', hRR'⟩ := hYX
    have HRR := Lib.hid hRR
    have HRR' := Lib.hid hRR'
    have HB := Lib.hid hB
    have hmx : Try.prog.follows .mixedOrders = true := by kernel_rfl
    clear hRR hRR' hrows hints hr hj hB hyy' HRR' hJ2 hW2 q0 q1 hs2 narrow hy2 hk2 h0 hszZ hs1 hml hmc hl1 hl2 hI2 hlc HM H109 HC hsv
    gi_wp2
    refine regionIn_T (S := fun wx => wx = X.drew) [11, 12] hmx rfl (fun _ => ?_)
    refine anyTI_take (i := 0) (v := ?_) rfl (by kernel_rfl) (by kernel_rfl) (by kernel_rfl) (by kernel_rfl) (fun _ _ _ h => h) ⟨Or.inl ⟨by rfl, ?_⟩, fun _ => rfl⟩ rfl ?_
    rotate_left
    focus ((intro wq hSw; subst hSw; go_simp); try with_reducible rfl)
    simp only [Act.put, List.getElem_toArray, List.getElem_cons_succ, List.getElem_cons_zero, List.setIfInBounds_toArray, List.set_cons_zero, List.set_cons_succ]
    refine anyTI_take (i := 1) (v := ?_) rfl (by kernel_rfl) (by kernel_rfl) (by kernel_rfl) (by kernel_rfl) (fun _ _ _ h => h) ⟨Or.inl ⟨by rfl, ?_⟩, fun _ => rfl⟩ rfl ?_
    rotate_left
    focus ((intro wq hSw; subst hSw; go_simp); try with_reducible rfl)
    simp only [Act.put, List.getElem_toArray, List.getElem_cons_succ, List.getElem_cons_zero, List.setIfInBounds_toArray, List.set_cons_zero, List.set_cons_succ]
    refine anyTI_take (i := 2) (v := ?_) rfl (by kernel_rfl) (by kernel_rfl) (by kernel_rfl) (by kernel_rfl) (fun _ _ _ h => h) ⟨Or.inl ⟨by rfl, ?_⟩, fun _ => rfl⟩ rfl ?_
    rotate_left
    focus ((intro wq hSw; subst hSw; go_simp); try with_reducible rfl)
    simp only [Act.put, List.getElem_toArray, List.getElem_cons_succ, List.getElem_cons_zero, List.setIfInBounds_toArray, List.set_cons_zero, List.set_cons_succ]
    refine anyTI_take (i := 3) (v := ?_) rfl (by kernel_rfl) (by kernel_rfl) (by kernel_rfl) (by kernel_rfl) (fun _ _ _ h => h) ⟨Or.inl ⟨by rfl, ?_⟩, fun _ => rfl⟩ rfl ?_
    rotate_left
    focus ((intro wq hSw; subst hSw; go_simp); try with_reducible rfl)
    simp only [Act.put, List.getElem_toArray, List.getElem_cons_succ, List.getElem_cons_zero, List.setIfInBounds_toArray, List.set_cons_zero, List.set_cons_succ]
    refine anyTI_take (i := 4) (v := ?_) rfl (by kernel_rfl) (by kernel_rfl) (by kernel_rfl) (by kernel_rfl) (fun _ _ _ h => h) ⟨Or.inl ⟨by rfl, ?_⟩, fun _ => rfl⟩ rfl ?_
    rotate_left
    focus ((intro wq hSw; subst hSw; go_simp); try with_reducible rfl)
    simp only [Act.put, List.getElem_toArray, List.getElem_cons_succ, List.getElem_cons_zero, List.setIfInBounds_toArray, List.set_cons_zero, List.set_cons_succ]
    refine anyTI_take (i := 5) (v := ?_) rfl (by kernel_rfl) (by kernel_rfl) (by kernel_rfl) (by kernel_rfl) (fun _ _ _ h => h) ⟨Or.inl ⟨by rfl, ?_⟩, fun _ => rfl⟩ rfl ?_
    rotate_left
    focus ((intro wq hSw; subst hSw; go_simp); try with_reducible rfl)
    simp only [Act.put, List.getElem_toArray, List.getElem_cons_succ, List.getElem_cons_zero, List.setIfInBounds_toArray, List.set_cons_zero, List.set_cons_succ]
    refine anyTI_take (i := 6) (v := ?_) rfl (by kernel_rfl) (by kernel_rfl) (by kernel_rfl) (by kernel_rfl) (fun _ _ _ h => h) ⟨Or.inl ⟨by rfl, ?_⟩, fun _ => rfl⟩ rfl ?_
    rotate_left
    focus ((intro wq hSw; subst hSw; go_simp); try with_reducible rfl)
    simp only [Act.put, List.getElem_toArray, List.getElem_cons_succ, List.getElem_cons_zero, List.setIfInBounds_toArray, List.set_cons_zero, List.set_cons_succ]
    refine anyTI_take (i := 7) (v := ?_) rfl (by kernel_rfl) (by kernel_rfl) (by kernel_rfl) (by kernel_rfl) (fun _ _ _ h => h) ⟨Or.inl ⟨by rfl, ?_⟩, fun _ => rfl⟩ rfl ?_
    rotate_left
    focus ((intro wq hSw; subst hSw; go_simp); try with_reducible rfl)
    simp only [Act.put, List.getElem_toArray, List.getElem_cons_succ, List.getElem_cons_zero, List.setIfInBounds_toArray, List.set_cons_zero, List.set_cons_succ]
    refine anyTI_take (i := 8) (v := ?_) rfl (by kernel_rfl) (by kernel_rfl) (by kernel_rfl) (by kernel_rfl) (fun _ _ _ h => h) ⟨Or.inl ⟨by rfl, ?_⟩, fun _ => rfl⟩ rfl ?_
    rotate_left
    focus ((intro wq hSw; subst hSw; go_simp); try with_reducible rfl)
    simp only [Act.put, List.getElem_toArray, List.getElem_cons_succ, List.getElem_cons_zero, List.setIfInBounds_toArray, List.set_cons_zero, List.set_cons_succ]
    refine anyTI_take (i := 9) (v := ?_) rfl (by kernel_rfl) (by kernel_rfl) (by kernel_rfl) (by kernel_rfl) (fun _ _ _ h => h) ⟨Or.inl ⟨by rfl, ?_⟩, fun _ => rfl⟩ rfl ?_
    rotate_left
    focus ((intro wq hSw; subst hSw; go_simp); try with_reducible rfl)
    simp only [Act.put, List.getElem_toArray, List.getElem_cons_succ, List.getElem_cons_zero, List.setIfInBounds_toArray, List.set_cons_zero, List.set_cons_succ]
    refine anyTI_take (i := 10) (v := ?_) rfl (by kernel_rfl) (by kernel_rfl) (by kernel_rfl) (by kernel_rfl) (fun _ _ _ h => h) ⟨Or.inl ⟨by rfl, ?_⟩, fun _ => rfl⟩ rfl ?_
    rotate_left
    focus ((intro wq hSw; subst hSw; go_simp); try with_reducible rfl)
    simp only [Act.put, List.getElem_toArray, List.getElem_cons_succ, List.getElem_cons_zero, List.setIfInBounds_toArray, List.set_cons_zero, List.set_cons_succ]
    refine anyTI_one (i := 11) (by kernel_rfl) rfl (fun K hK => ?_)
    go_simp
    refine ⟨fun _ => by omega, ?_⟩
    refine HRR.out.mono ?_
    rintro e W3 ⟨rfl, hJ3, hK3, hF3⟩
    have hKX : KpB n0 Bd X W3 := KpB.trans (⟨(Below.refl _ X).drew, fun _ _ _ h _ => h⟩ : KpB n0 Bd X X.drew) hK3
    have hBW3 := HB.out.trans hKX.1
    have hbb : W3.cell? ⟨Bb, 0, none⟩ = some (.slice (some ⟨b1, off1, none⟩) m.length cap2) := hKX.cell (by omega) hb
    have hyy3 : W3.cell? ⟨W.heap.size, 0, none⟩ = some (.func (.yield l) #[] #[]) := hKX.cell (by omega) hy
    have hFX : KeepsFrom W0.heap.size X W3 := ⟨hF3.size, fun q o hq h0 ho => hF3.same q o (by omega) h0 ho⟩
    have HFIN := Lib.hid (⟨hFX, hKX, hJ3, ⟨hbb, hyy3⟩, hBW3⟩ : KeepsFrom W0.heap.size X W3 ∧ KpB n0 Bd X W3 ∧ J (pre ++ [⟨(i, k), hi, hk⟩]) W3 ∧ ((W3.cell? ⟨Bb, 0, none⟩ = some (.slice (some ⟨b1, off1, none⟩) m.length cap2) ∧ W3.cell? ⟨W.heap.size, 0, none⟩ = some (.func (.yield l) #[] #[])) ∧ Below n0 w W3))
    clear hFX hKX hbb hyy3 hBW3 hJ3 hK3 hF3
    refine hK _ _ (fun h => by cases h) ?_
    clear hK K
    try simp only [Act.put, List.getElem_toArray, List.getElem_cons_succ, List.getElem_cons_zero, List.setIfInBounds_toArray, List.set_cons_zero, List.set_cons_succ]
    refine anyTI_one (i := 12) (by kernel_rfl) rfl (fun K hK => ?_)
    go_simp
    refine hK _ _ (fun h => by cases h) ?_
    clear hK K
    try simp only [Act.put, List.getElem_toArray, List.getElem_cons_succ, List.getElem_cons_zero, List.setIfInBounds_toArray, List.set_cons_zero, List.set_cons_succ]
    refine anyTI_done (by kernel_rfl) ?_ _
    gi_wp2
    exact HFIN.out
  case done =>
    rintro D ys X hD hys ⟨hj, ⟨hb, hy⟩, hB⟩ hK
    gi_wp2
    refine ⟨by simp, .inl ⟨_, _, rfl, run_takeDeferred hK, ?_⟩⟩
    refine ⟨_, results_none rfl _ _ _, ⟨_, rfl⟩, ys, hys, HJ.out.putObj _ hj (by omega) hK rfl⟩
  case stop =>
    rintro D c pre X _ _ h _
    exact h.elim
end Go.Proofs.Ytegomicpolnpoaa
