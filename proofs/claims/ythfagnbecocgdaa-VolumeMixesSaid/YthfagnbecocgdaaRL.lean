/- Steps: the program's. -/
import Derived.Test.YthfagnbecocgdaaRK
import Derived.Test.YthfagnbecocgdaaRI
import Derived.RangeFuncBox
import Derived.Maps.AppendAt
namespace Go.Proofs.Ythfagnbecocgdaa
open Go.RowKit Go.Shelf Go.Deep
attribute [local go_sem] Oper.semAt_some

theorem wpListIn_append_moves {F : Fence} {n : Nat} {P : Program} (w : World) {ops : Array Oper} {rest : List Oper} {o : Oper} {a : Act} {Q : Exit → Act → World → Prop}
    (hg : o.guard = none) (s x : Operand) (t : TypeId) (hop : o.op = Op.call { callee := Callee.builtin Builtin.append, args := #[s, x], argTypes := #[t, t] })
    (base : Nat) (e : TypeId) (i : TypeInfo) (z : Value) (size bytes : Nat) (h1 : P.underlying t = some (.slice e)) (h2 : P.info? e = some i) (h3 : i.zero = some z) (h4 : i.size = size) (h5 : i.bytes = bytes) (h6 : z.cells.size = size) (h7 : 0 < size)
    (v : Value) (k : Nat) (xs : List Value) (hs : a.eval s = v) (hown : w.ownsRow base e size v k xs) (ad : Addr) (m c : Nat) (news : List Value) (hx : a.eval x = .slice (some ad) m c) (hn : news.length = m * size)
    (hc : ∀ j u, news[j]? = some u → w.cell? (ad.add j) = some u) (h1c : ∀ u ∈ news, u.oneCell' = true) (b1 : k + m ≤ maxLen) (b2 : (k + m) * bytes ≤ 140737488355328) (b3 : base ≤ w.heap.size)
    (hK : ∀ v' w', w'.ownsRow base e size v' (k + m) (xs ++ news) → w.grownBy w' v.ownBlock → Moved w v v' → wpListIn F n P ops Q rest (a.put o.dst v') w') :
    wpListIn F n P ops Q (o :: rest) a w := by
  refine wpListIn_plain hg fun K hK' => ?_
  obtain ⟨v', w', hrun, r1, r2, r3⟩ := run_append_moves (P := P) w base t o.type e i z size bytes h1 h2 h3 h4 h5 h6 h7 v k xs hown ad m c news hn hc h1c b1 b2 b3
  unfold Oper.wpIn
  refine ⟨?_, ?_⟩
  · simp [Oper.about, hop, resolve, Target.leads, Sem.run_pure]
  · rw [Oper.semAt_plain F _ _ (by rw [hop]; intro c hc'; cases hc')]
    simp [execOp, hop, resolve, invoke, builtin, hs, hx, hrun, Result.andThen]
    exact hK' _ _ (hK v' w' r1 r2 r3)

/-- A row of new memory alone. -/
def RowNew (B : Nat) (w : World) (l : List Int) (v : Value) : Prop := ∀ w', (∀ k, B ≤ k → k < w.heap.size → w'.heap[k]? = w.heap[k]?) → RowIn w' l v
def RowRet (w : World) (l : List Int) (e : Ending) (w' : World) : Prop := ∃ u, e = .returned u ∧ RowNew w.heap.size w' l u ∧ Below w.heap.size w w'
def RowNAns (w : World) (l : List Int) (k : Int) (e : Ending) (w' : World) : Prop := ∃ u, e = .returned (.tuple #[u, .int .i64 k]) ∧ RowNew w.heap.size w' l u ∧ Below w.heap.size w w'
theorem fitted85_row (f : FuncId) (caps : Array Value) (w : World) (L : List Int) (hcf : ∀ w : World, (callFunc f caps).run Try.prog w = .ok (.enter f caps) w)
    (hc : Calls Try.prog f caps (w.alloc (.cells #[.int .i64 0] 26)) (RowRet (w.alloc (.cells #[.int .i64 0] 26)) L)) : Calls Try.prog 85 #[.func (.func f) #[] caps] w (RowNAns w L 0) := by
  refine (fitted85_new f caps w (fun u w' => RowNew (w.heap.size + 1) w' L u) (fun u w1 w2 he h w' h2 => h w' fun k hk hlt => ?_) hcf ?_).mono ?_
  · have h1 := he k (by omega) hlt
    have hlt2 : k < w2.heap.size := by
      rw [Array.getElem?_eq_getElem hlt] at h1
      exact (Array.getElem?_eq_some_iff.1 h1).1
    exact (h2 k hk hlt2).trans h1
  · refine hc.mono ?_
    rintro e w' ⟨u, h1, h2, h3⟩
    rw [World.size_alloc] at h2
    exact ⟨u, h1, h2, h3⟩
  · rintro e w' ⟨u, h1, h2, h3⟩
    exact ⟨u, h1, fun w2 hw => h2 w2 fun k hk hlt => hw k (by omega) hlt, h3⟩

/-- A ramp's gains. -/
def stepsL (f t : Int) (n : Nat) : List Int := (List.range n).map fun i => rampG f t n 0 i
theorem stepsL_ok {f t : Int} {n : Nat} (hr : RampOk f t n 0) (hn : n ≤ 4096) : okRow (stepsL f t n) := by
  refine ⟨by simp [stepsL]; omega, fun i hi => ?_⟩
  simp [stepsL] at hi
  have : (stepsL f t n).getD i 0 = rampG f t n 0 i := by simp [stepsL, List.getD, hi]
  rw [this]
  have := grownI_gain (rampOk_at hr i)
  unfold rampG I64; omega

/-- A list in a box that grows, apart from block I. -/
def Growing (N0 Bo I : Nat) (L : List Int) (W : World) : Prop := ∃ u, (Boxed W Bo 40 u ∧ W.ownsRow N0 3 1 u L.length (L.map (Value.int .i64))) ∧ u.ownBlock ≠ some I
theorem Growing.keep {N0 Bo I : Nat} {L : List Int} {W W' : World} {row : Option Nat} (h : Growing N0 Bo I L W) (hg : W.grownBy W' row) (hr : ∀ r, row = some r → r ≠ Bo ∧ (r = I ∨ ∃ o : Obj, W.heap[r]? = some o ∧ o.isCells = false)) : Growing N0 Bo I L W' := by
  obtain ⟨u, ⟨hb, ho⟩, hi⟩ := h
  refine ⟨u, ⟨hb.kept hg (fun e => ?_), owns_grown ho hg (fun g hu e => ?_)⟩, hi⟩
  · exact (hr Bo e.symm).1 rfl
  · rcases (hr g e).2 with rfl | ⟨o, ho2, hc⟩
    · exact hi hu
    · rcases ho.2 with ⟨rfl, _⟩ | ⟨g', cap, cur, rfl, _, hgg, _⟩
      · cases hu
      · cases hu
        rw [hgg] at ho2; cases ho2; cases hc

set_option maxHeartbeats 4000000 in
set_option maxRecDepth 100000 in
theorem steps1_yes (B1 B2 B3 : Nat) (f t : Int) (n : Nat) (w : World) (hr : rampB f t n = true) (hn : n ≤ 4096)
    (k1 : w.cell? ⟨B1, 0, none⟩ = some (.int .i64 f)) (k2 : w.cell? ⟨B2, 0, none⟩ = some (.int .i64 t)) (k3 : w.cell? ⟨B3, 0, none⟩ = some (.int .i64 n)) :
    Calls Try.prog 86 #[at0 B1, at0 B2, at0 B3] w (RowRet w (stepsL f t n)) := by
  obtain ⟨i0, hi, hz0, hz1, hz2⟩ := info_parts Try.info3
  have h83 := rampOf_yes hr w
  have H50 := Lib.hid (must_yes 4)
  have HRO := Lib.hid (rampOk_of hr)
  have HX : Hid (∀ x, Below w.heap.size w x → x.cell? ⟨B3, 0, none⟩ = some (.int .i64 n)) := Lib.hid fun x hx => (Same.of_below hx).cell k3
  have hn4 : (n : Int) ≤ 4096 := by omega
  clear hr
  refine (callsIn_wide (n := 9)).1 ?_
  refine callsIn_of_wp_marks Try.func86 rfl trivial ?_ rfl
  simp only [Try.ntmps86, List.size_toArray, List.length_cons, List.length_nil, Nat.reduceAdd, Nat.reduceSub, Array.replicate_succ, Array.replicate_zero, List.push_toArray, List.append_toArray, List.nil_append, List.cons_append]
  gi_wp2
  refine ⟨trivial, (callsIn_wide.2 h83).mono ?_⟩
  rintro e w1 ⟨rfl, hb1⟩
  unfold rampV
  have hb2 : Below w.heap.size w (w1.alloc (.cells #[.int .i64 f, .int .i64 t, .int .i64 n, .int .i64 0] 77)) := hb1.alloc hb1.size _
  have hc3 := HX.out _ hb2
  have hc4 := HX.out _ (hb2.alloc hb2.size (.cells #[.slice none 0 0] 40))
  clear k1 k2 k3 h83
  gi_wp2
  refine ⟨trivial, (callsIn_wide.2 (H50.out _)).mono ?_⟩
  rintro e w2 ⟨rfl, rfl⟩
  have h57 := gainsOf_any f t n 0 n ((w1.alloc (.cells #[.int .i64 f, .int .i64 t, .int .i64 n, .int .i64 0] 77)).alloc (.cells #[.slice none 0 0] 40))
  unfold rampV at h57
  gi_wp2
  refine ⟨trivial, (callsIn_wide.2 h57).mono ?_⟩
  rintro e w2 ⟨rfl, rfl⟩
  gi_wp2
  obtain ⟨Z1, hZ1⟩ : ∃ Z1, w1.heap.size = Z1 := ⟨_, rfl⟩
  have hbb : Below w.heap.size w ((((w1.alloc (.cells #[.int .i64 f, .int .i64 t, .int .i64 n, .int .i64 0] 77)).alloc (.cells #[.slice none 0 0] 40)).alloc (.cells #[.int .i64 f, .int .i64 t, .int .i64 n, .int .i64 0] 77)).alloc (.cells #[.int .i64 n] 3)) :=
    ((hb2.alloc hb2.size _).alloc (by have := hb2.size; simp at this ⊢; omega) _).alloc (by have := hb2.size; simp at this ⊢; omega) _
  have hbox : Boxed ((((w1.alloc (.cells #[.int .i64 f, .int .i64 t, .int .i64 n, .int .i64 0] 77)).alloc (.cells #[.slice none 0 0] 40)).alloc (.cells #[.int .i64 f, .int .i64 t, .int .i64 n, .int .i64 0] 77)).alloc (.cells #[.int .i64 n] 3)) (Z1 + 1) 40 (.slice none 0 0) := by
    have := ((Boxed.new (w1.alloc (.cells #[.int .i64 f, .int .i64 t, .int .i64 n, .int .i64 0] 77)) 40 (.slice none 0 0)).alloc (.cells #[.int .i64 f, .int .i64 t, .int .i64 n, .int .i64 0] 77)).alloc (.cells #[.int .i64 n] 3)
    rwa [World.size_alloc, hZ1] at this
  have hR : RampAt (Z1 + 1 + 1) 0 f t n 0 ((((w1.alloc (.cells #[.int .i64 f, .int .i64 t, .int .i64 n, .int .i64 0] 77)).alloc (.cells #[.slice none 0 0] 40)).alloc (.cells #[.int .i64 f, .int .i64 t, .int .i64 n, .int .i64 0] 77)).alloc (.cells #[.int .i64 n] 3)) := by
    subst hZ1
    refine RampAt.mono ⟨?_, ?_, ?_, ?_⟩ (Same.alloc _ _) <;> simp [go_sem]
  have hK : ((((w1.alloc (.cells #[.int .i64 f, .int .i64 t, .int .i64 n, .int .i64 0] 77)).alloc (.cells #[.slice none 0 0] 40)).alloc (.cells #[.int .i64 f, .int .i64 t, .int .i64 n, .int .i64 0] 77)).alloc (.cells #[.int .i64 n] 3)).cell? ⟨Z1 + 1 + 1 + 1, 0, none⟩ = some (.int .i64 n) := by
    subst hZ1; simp [go_sem]
  have hs0 : ((((w1.alloc (.cells #[.int .i64 f, .int .i64 t, .int .i64 n, .int .i64 0] 77)).alloc (.cells #[.slice none 0 0] 40)).alloc (.cells #[.int .i64 f, .int .i64 t, .int .i64 n, .int .i64 0] 77)).alloc (.cells #[.int .i64 n] 3)).heap.size = Z1 + 4 := by simp [hZ1]
  have hzN : w.heap.size ≤ Z1 := by rw [← hZ1]; exact hb1.size
  rw [hZ1]
  obtain ⟨W0, hW0⟩ : ∃ W0, ((((w1.alloc (.cells #[.int .i64 f, .int .i64 t, .int .i64 n, .int .i64 0] 77)).alloc (.cells #[.slice none 0 0] 40)).alloc (.cells #[.int .i64 f, .int .i64 t, .int .i64 n, .int .i64 0] 77)).alloc (.cells #[.int .i64 n] 3)) = W0 := ⟨_, rfl⟩
  rw [hW0] at hbb hbox hR hK hs0 ⊢
  clear hW0 h57 hc3 hc4 hb1 hb2 hZ1
  obtain ⟨N0, hN0⟩ : ∃ N0, w.heap.size = N0 := ⟨_, rfl⟩
  rw [hN0] at hbb hzN
  refine range_it (n0 := N0) rfl (by omega) (gf := 108) (lb := #[at0 (Z1 + 1 + 1), at0 (Z1 + 1 + 1 + 1)]) rfl trivial (enters_of Try.func108 (by kernel_rfl) rfl)
    (gains_it (9 - 1) (by omega) HRO.out _ _ n hn N0 W0 hR hK) (by omega) (Below.refl _ _) (fun _ => rfl)
    (fun (pre : List { i : Nat // i < n }) Y => Growing N0 (Z1 + 1) (W0.heap.size + 2) ((vals pre).map (rampG f t n 0)) Y ∧ Below N0 w Y)
    (fun pre X Y row hs hg hr => ⟨hs.1.keep hg fun r e => ⟨by have := (hr r e).1; omega, .inr (hr r e).2⟩, hs.2.grown hg (by rw [← hN0]; exact hs.2.size) fun k e => by have := (hr k e).1; omega⟩)
    (fun pre X Y row hs hg hr => ⟨hs.1.keep hg fun r e => by rcases hr r e with rfl | h; exact ⟨by omega, .inl rfl⟩; exact ⟨by omega, .inr h.2⟩, hs.2.grown hg (by rw [← hN0]; exact hs.2.size) fun k e => by rcases hr k e with rfl | h; omega; have := h.1; omega⟩)
    ⟨⟨_, ⟨hbox, World.ownsRow_nil _ _ _ _⟩, by simp [Value.ownBlock]⟩, hbb⟩
    (fun pre x a' _ => a' = { tmps := #[at0 B1, at0 B2, at0 B3, .slice none 0 0, .pointer (some ⟨Z1, 0, none⟩), .pointer (some ⟨Z1 + 1, 0, none⟩), undef, .int .i64 (rampG f t n 0 x.1), .int .i64 f, .int .i64 t, .int .i64 n, .agg #[.int .i64 f, .int .i64 t, .int .i64 n, .int .i64 0],
      .int .i64 n, .bool true, .tuple #[], .agg #[.int .i64 f, .int .i64 t, .int .i64 n, .int .i64 0], .int .i64 n, .func (.func 108) #[] #[at0 (Z1 + 1 + 1), at0 (Z1 + 1 + 1 + 1)], .int .i64 x.1, .int .i64 (rampG f t n 0 x.1), undef, undef, undef, undef, undef], defers := [] })
    (fun pre x a' _ X Y row hs hg hr => hs)
    ?assign ?body ?done
  case assign =>
    rintro l pre x X K hI hK
    dsimp only [gainVals]
    gi_wp2
    exact hK _ _ (KeepsFrom.refl _ _) ⟨Below.refl _ _, fun _ h _ => h⟩ hI rfl
  case body =>
    rintro l pre ⟨i, hi2⟩ a' X ⟨⟨u, ⟨hb, ho⟩, hne⟩, hB⟩ rfl hlen hgt
    dsimp only
    have hc := hb.cell
    have hNX := hB.size
    rw [hN0] at hNX
    obtain ⟨y, hy⟩ : ∃ y, rampG f t n 0 i = y := ⟨_, rfl⟩
    have hll : ((vals pre).map (rampG f t n 0)).length = pre.length := by simp [vals]
    have hnext : (vals (pre ++ [(⟨i, hi2⟩ : { i : Nat // i < n })])).map (rampG f t n 0) = (vals pre).map (rampG f t n 0) ++ [y] := by simp [vals, hy]
    obtain ⟨L, hL⟩ : ∃ L, (vals pre).map (rampG f t n 0) = L := ⟨_, rfl⟩
    rw [hL] at ho hll hnext
    rw [hy]
    have HO := Lib.hid ho
    have HB := Lib.hid hb
    have HNE := Lib.hid hne
    have HBL := Lib.hid hB
    have HNX := Lib.hid hnext
    have HLL := Lib.hid hll
    clear hB hne hL hnext hy hll hbox hR hK hbb
    gi_wp2_with (gi_at_builtin; refine wpListIn_append_moves _ rfl _ _ 40 rfl N0 3 i0 (.int .i64 0) 1 8 Try.underlying40 hi hz0 hz1 hz2 rfl (by decide) _ _ _ rfl (ho.alloc (.cells #[.int .i64 y] 3)) ⟨X.heap.size, 0, none⟩ 1 1 [.int .i64 y] rfl rfl (cell_one_new _ _ _) (by simp [Value.oneCell']) (by have := HLL.out; unfold maxLen; omega) (by have := HLL.out; omega) (by simp; omega) ?_)
    intro v' w2 hown' hgrow hmv
    obtain ⟨p', c', rfl⟩ := slice_owns hown'
    obtain ⟨hb1, hb2, ho2, hk2, hbl2⟩ := Boxed.appended (tmp := .cells #[.int .i64 y] 3) HB.out (by decide) HO.out (by omega) (by omega) hown' hgrow
    have hc1 := hb1.cell
    have hzf := hb1.frozen
    have hblk : ((w2.setCell ⟨Z1 + 1, 0, none⟩ (.slice p' (L.length + 1) c'))).heap[W0.heap.size + 2]? = X.heap[W0.heap.size + 2]? := by
      rw [blk_setCell_other _ _ _ _ (by show W0.heap.size + 2 ≠ Z1 + 1; omega), hgrow.block _ (by simp; omega) (fun e => HNE.out e.symm)]
      exact Below.heap_alloc _ _ _ hgt
    have hne2 : (Value.slice p' (L.length + 1) c').ownBlock ≠ some (W0.heap.size + 2) := fun e => by
      rcases hmv with hm | ⟨g, hg, hg2⟩
      · exact HNE.out (hm.symm.trans e)
      · rw [hg] at e; cases e; simp at hg2; omega
    have HF := Lib.hid (show KeepsFrom W0.heap.size X (w2.setCell ⟨Z1 + 1, 0, none⟩ (.slice p' (L.length + 1) c')) ∧ KpI N0 (W0.heap.size + 2) X (w2.setCell ⟨Z1 + 1, 0, none⟩ (.slice p' (L.length + 1) c')) ∧
        Growing N0 (Z1 + 1) (W0.heap.size + 2) ((vals (pre ++ [(⟨i, hi2⟩ : { i : Nat // i < n })])).map (rampG f t n 0)) (w2.setCell ⟨Z1 + 1, 0, none⟩ (.slice p' (L.length + 1) c')) ∧ Below N0 w (w2.setCell ⟨Z1 + 1, 0, none⟩ (.slice p' (L.length + 1) c')) from
      ⟨hk2.from _, ⟨hbl2, fun o ho _ => hblk.trans ho⟩, ⟨_, ⟨hb2, by rw [HNX.out]; simpa using ho2⟩, hne2⟩, HBL.out.trans hbl2⟩)
    clear hown' hgrow hmv hb1 hb2 ho2 hk2 hbl2 hblk hne2
    obtain ⟨X5, hX5⟩ : ∃ X5, w2.setCell ⟨Z1 + 1, 0, none⟩ (.slice p' (L.length + 1) c') = X5 := ⟨_, rfl⟩
    rw [hX5] at HF
    rw [hs0] at HF
    clear HO HB HNE HBL HNX HLL
    gi_wp2
    exact HF.out
  case done =>
    rintro D xs Y hD hxs ⟨⟨u, ⟨hb, ho⟩, _⟩, hB⟩ hKD
    have hc := hb.cell
    have hL : (vals xs).map (rampG f t n 0) = stepsL f t n := by rw [show vals xs = List.range n from hxs]; rfl
    rw [hL] at ho
    have HO := Lib.hid (ownsRow_putObj ho (.deferred none) hKD rfl)
    have HB := Lib.hid (hB.grown (grownBy_putObj' Y D (.deferred none)) (by have := hB.size; omega) (fun k e => by cases e; omega))
    clear ho hB hbox hR hK hbb
    gi_wp2
    refine ⟨by simp, .inl ⟨_, _, rfl, run_takeDeferred hKD, ?_⟩⟩
    refine ⟨_, results_tmp rfl _ _ _, _, rfl, ?_, by rw [hN0]; exact HB.out⟩
    rw [hN0]
    exact fun w' he => owns_row HO.out (stepsL_ok HRO.out hn) he

set_option maxRecDepth 100000 in
theorem steps1_no (B1 B2 B3 : Nat) (f t n : Int) (hIf : I64 f) (hIt : I64 t) (w : World) (hr : rampB f t n = false)
    (k1 : w.cell? ⟨B1, 0, none⟩ = some (.int .i64 f)) (k2 : w.cell? ⟨B2, 0, none⟩ = some (.int .i64 t)) (k3 : w.cell? ⟨B3, 0, none⟩ = some (.int .i64 n)) :
    Calls Try.prog 86 #[at0 B1, at0 B2, at0 B3] w (LeavesX 7 w) := by
  have h83 := rampOf_no hIf hIt hr w
  clear hr hIf hIt
  go_enter Try.func86, Try.ntmps86
  go_wp2_with (go_at_call 83; (with_reducible refine h83.mono ?_); rintro e w1 ⟨rfl, hb1⟩)
  exact ⟨rfl, rfl, hb1⟩
set_option maxRecDepth 100000 in
theorem steps1_long (B1 B2 B3 : Nat) (f t n : Int) (w : World) (hr : rampB f t n = true) (hn : 4096 < n)
    (k1 : w.cell? ⟨B1, 0, none⟩ = some (.int .i64 f)) (k2 : w.cell? ⟨B2, 0, none⟩ = some (.int .i64 t)) (k3 : w.cell? ⟨B3, 0, none⟩ = some (.int .i64 n)) :
    Calls Try.prog 86 #[at0 B1, at0 B2, at0 B3] w (LeavesX 4 w) := by
  have h83 := rampOf_yes hr w
  have H50 := Lib.hid (must_no 4)
  have HX : Hid (∀ x, Below w.heap.size w x → x.cell? ⟨B3, 0, none⟩ = some (.int .i64 n)) := Lib.hid fun x hx => (Same.of_below hx).cell k3
  have hn4 : ¬ n ≤ 4096 := by omega
  have hn5 : decide (n ≤ 4096) = false := by simpa using hn4
  clear hr
  go_enter Try.func86, Try.ntmps86
  go_wp2_with (first
    | (go_at_call 83; (with_reducible refine h83.mono ?_); rintro e w1 ⟨rfl, hb1⟩; unfold rampV; have hb2 : Below w.heap.size w (w1.alloc (.cells #[.int .i64 f, .int .i64 t, .int .i64 n, .int .i64 0] 77)) := (hb1.alloc hb1.size _); have hc3 := HX.out _ hb2)
    | (go_at_call 50; (with_reducible refine (H50.out _).mono ?_); rintro e w2 ⟨rfl, rfl⟩))
  exact ⟨rfl, rfl, hb2⟩

def stepsK (f t n : Int) : Int := if rampB f t n = false then 7 else if 4096 < n then 4 else 0
def stepsR (f t n : Int) : List Int := if stepsK f t n = 0 then stepsL f t n.toNat else []
set_option maxRecDepth 100000 in
theorem steps_any (f t n : Int) (hIf : I64 f) (hIt : I64 t) (w : World) : Calls Try.prog 29 #[.int .i64 f, .int .i64 t, .int .i64 n] w (RowNAns w (stepsR f t n) (stepsK f t n)) := by
  have hmf := makes
  obtain ⟨X, hX⟩ : ∃ X, Obj.cells #[.int .i64 f] 3 = X := ⟨_, rfl⟩
  obtain ⟨Y, hY⟩ : ∃ Y, Obj.cells #[.int .i64 t] 3 = Y := ⟨_, rfl⟩
  obtain ⟨V, hV⟩ : ∃ V, Obj.cells #[.int .i64 n] 3 = V := ⟨_, rfl⟩
  have hbel : Below w.heap.size w (((w.alloc X).alloc Y).alloc V) := (((Below.refl _ w).alloc (Nat.le_refl _) _).alloc (by simp) _).alloc (by simp <;> omega) _
  have c0 : ∀ Z, ((((w.alloc X).alloc Y).alloc V).alloc Z).cell? ⟨w.heap.size, 0, none⟩ = some (.int .i64 f) := fun Z => by
    refine (Same.alloc _ Z).cell ((Same.alloc _ V).cell ((Same.alloc _ Y).cell ?_)); rw [← hX]; simp [go_sem]
  have c1 : ∀ Z, ((((w.alloc X).alloc Y).alloc V).alloc Z).cell? ⟨w.heap.size + 1, 0, none⟩ = some (.int .i64 t) := fun Z => by
    refine (Same.alloc _ Z).cell ((Same.alloc _ V).cell ?_); rw [← hY]; simp [go_sem]
  have c2 : ∀ Z, ((((w.alloc X).alloc Y).alloc V).alloc Z).cell? ⟨w.heap.size + 1 + 1, 0, none⟩ = some (.int .i64 n) := fun Z => by
    refine (Same.alloc _ Z).cell ?_; rw [← hV]; simp [go_sem]
  have hcl : (stepsK f t n = 0 ∧ Calls Try.prog 85 #[.func (.func 86) #[] #[at0 w.heap.size, at0 (w.heap.size + 1), at0 (w.heap.size + 1 + 1)]] (((w.alloc X).alloc Y).alloc V) (RowNAns (((w.alloc X).alloc Y).alloc V) (stepsR f t n) 0)) ∨
      (stepsR f t n = [] ∧ Calls Try.prog 85 #[.func (.func 86) #[] #[at0 w.heap.size, at0 (w.heap.size + 1), at0 (w.heap.size + 1 + 1)]] (((w.alloc X).alloc Y).alloc V) fun e w' => e = .returned (.tuple #[.slice none 0 0, .int .i64 (stepsK f t n)]) ∧ Below (((w.alloc X).alloc Y).alloc V).heap.size (((w.alloc X).alloc Y).alloc V) w') := by
    have he := enters_of Try.func86 (by kernel_rfl) rfl
    cases hr : rampB f t n with
    | false =>
      have hk : stepsK f t n = 7 := by simp [stepsK, hr]
      refine .inr ⟨by simp [stepsR, hk], ?_⟩
      rw [hk]
      exact fitted85_no 86 _ 7 _ (he _) (steps1_no _ _ _ f t n hIf hIt _ hr (c0 _) (c1 _) (c2 _))
    | true =>
      by_cases hn : 4096 < n
      · have hk : stepsK f t n = 4 := by simp [stepsK, hr, hn]
        refine .inr ⟨by simp [stepsR, hk], ?_⟩
        rw [hk]
        exact fitted85_no 86 _ 4 _ (he _) (steps1_long _ _ _ f t n _ hr hn (c0 _) (c1 _) (c2 _))
      · have hk : stepsK f t n = 0 := by simp [stepsK, hr, hn]
        refine .inl ⟨hk, ?_⟩
        have hn0 := (rampOk_of hr).hn
        obtain ⟨k, rfl⟩ : ∃ k : Nat, n = k := ⟨n.toNat, by omega⟩
        rw [show stepsR f t k = stepsL f t k by simp [stepsR, hk]]
        exact fitted85_row 86 _ _ _ (he _) (steps1_yes _ _ _ f t k _ hr (by omega) (c0 _) (c1 _) (c2 _))
  generalize stepsR f t n = M at *
  generalize stepsK f t n = Kk at *
  have HBL := Lib.hid hbel
  clear hbel c0 c1 c2 hIf hIt
  rcases hcl with ⟨rfl, hf⟩ | ⟨rfl, hf⟩
  · subst hX
    subst hY
    subst hV
    go_enter Try.func29, Try.ntmps29
    go_wp2_with (go_at_call 85; (with_reducible refine hf.mono ?_); rintro e w1 ⟨u, rfl, hu, hb1⟩; have HU := Lib.hid hu; clear hu)
    go_ret2
    exact ⟨_, rfl, fun w' he => HU.out w' fun k hk hlt => he k (Nat.le_trans HBL.out.size hk) hlt, HBL.out.trans (hb1.mono HBL.out.size)⟩
  · subst hX
    subst hY
    subst hV
    go_enter Try.func29, Try.ntmps29
    go_wp2_with (go_at_call 85; (with_reducible refine hf.mono ?_); rintro e w1 ⟨rfl, hb1⟩)
    go_ret2
    exact ⟨_, rfl, fun w' _ => row_nil w', HBL.out.trans (hb1.mono HBL.out.size)⟩
end Go.Proofs.Ythfagnbecocgdaa
