/- Lay of the program: the closure. -/
import Derived.Test.YtinlcgcnjlifkaaSX
namespace Go.Proofs.Ytinlcgcnjlifkaa
open Go.RowKit Go.Shelf Go.Deep
attribute [local go_sem] Oper.semAt_some

/-- All but two blocks is as it was. -/
def Two (A B : Nat) (w w' : World) : Prop := (w'.os = w.os ∧ w'.tape = w.tape ∧ w'.output = w.output) ∧ w.heap.size ≤ w'.heap.size ∧ ∀ k, k ≠ A → k ≠ B → k < w.heap.size → w'.heap[k]? = w.heap[k]?
theorem Two.refl (A B : Nat) (w : World) : Two A B w w := ⟨⟨rfl, rfl, rfl⟩, Nat.le_refl _, fun _ _ _ _ => rfl⟩
theorem Two.trans {A B : Nat} {w1 w2 w3 : World} (h : Two A B w1 w2) (g : Two A B w2 w3) : Two A B w1 w3 :=
  ⟨⟨g.1.1.trans h.1.1, g.1.2.1.trans h.1.2.1, g.1.2.2.trans h.1.2.2⟩, Nat.le_trans h.2.1 g.2.1, fun k ha hb hlt => (g.2.2 k ha hb (Nat.lt_of_lt_of_le hlt h.2.1)).trans (h.2.2 k ha hb hlt)⟩
theorem Two.of {A B : Nat} {w w' : World} (h : Below w.heap.size w w') : Two A B w w' := ⟨⟨h.os, h.tape, h.output⟩, h.size, fun k _ _ hlt => h.block k hlt⟩
theorem Two.setA (A B : Nat) (w : World) (i : Nat) (v : Value) : Two A B w (w.setCell ⟨A, i, none⟩ v) := ⟨⟨rfl, rfl, rfl⟩, by simp, fun k ha _ _ => blk_setCell_other _ _ _ _ ha⟩
theorem Two.setB (A B : Nat) (w : World) (i : Nat) (v : Value) : Two A B w (w.setCell ⟨B, i, none⟩ v) := ⟨⟨rfl, rfl, rfl⟩, by simp, fun k _ hb _ => blk_setCell_other _ _ _ _ hb⟩
/-- The closure's memory. -/
structure L4 (w : World) (Nd Na No Ne : Nat) (o : Obj) (at' : Int) (v : Value) (e : Int) (X : World) : Prop where
  hd : X.heap[Nd]? = some o
  ha : X.heap[Na]? = some (.cells #[.int .i64 at'] 3)
  ho : X.heap[No]? = some (.cells #[v] 31)
  he : X.heap[Ne]? = some (.cells #[.int .i64 e] 3)
  tw : Two No Ne w X
theorem L4.below {w : World} {Nd Na No Ne : Nat} {o : Obj} {at' : Int} {v : Value} {e : Int} {X Y : World} (h : L4 w Nd Na No Ne o at' v e X) (g : Below X.heap.size X Y) : L4 w Nd Na No Ne o at' v e Y :=
  ⟨keep_blk g h.hd, keep_blk g h.ha, keep_blk g h.ho, keep_blk g h.he, h.tw.trans (Two.of g)⟩
theorem L4.grown {w : World} {Nd Na No Ne M : Nat} {o : Obj} {at' : Int} {v : Value} {e : Int} {X Y : World} {row : Option Nat} (h : L4 w Nd Na No Ne o at' v e X) (hl : Nd < M ∧ Na < M ∧ No < M ∧ Ne < M) (hM : w.heap.size ≤ M) (g : X.grownBy Y row) (hr : ∀ r, row = some r → M ≤ r) : L4 w Nd Na No Ne o at' v e Y := by
  have hne : ∀ j, j < M → some j ≠ row := fun j hj e => by have := hr j e.symm; omega
  have hlt : ∀ {j : Nat} {p : Obj}, X.heap[j]? = some p → j < X.heap.size := fun h => (Array.getElem?_eq_some_iff.1 h).1
  refine ⟨(g.block _ (hlt h.hd) (hne _ hl.1)).trans h.hd, (g.block _ (hlt h.ha) (hne _ hl.2.1)).trans h.ha, (g.block _ (hlt h.ho) (hne _ hl.2.2.1)).trans h.ho, (g.block _ (hlt h.he) (hne _ hl.2.2.2)).trans h.he, ?_⟩
  exact ⟨⟨g.os.trans h.tw.1.1, g.tape.trans h.tw.1.2.1, g.output.trans h.tw.1.2.2⟩, Nat.le_trans h.tw.2.1 g.size, fun j ha hb hj => (g.block j (Nat.lt_of_lt_of_le hj h.tw.2.1) (hne j (by omega))).trans (h.tw.2.2 j ha hb hj)⟩
theorem cellM {W : World} {M t i : Nat} {vals : List Value} {v : Value} (h : W.heap[M]? = some (.cells vals.toArray t)) (hi : i < vals.length) (hv : vals.getD i undef = v) : W.cell? ⟨M, i, none⟩ = some v := by
  unfold World.cell?
  rw [h, ← hv]
  simp [List.getD, hi]
theorem Lr.lower {M N c : Nat} {F : Nat → List Int} {vals : List Value} {W : World} (h : Lr M N c F vals W) {p : Nat} (hp : p < M) (v : Value) : Lr M N c F vals (W.setCell ⟨p, 0, none⟩ v) :=
  ⟨h.len, (blk_setCell_other _ _ _ _ (by show M ≠ p; omega)).trans h.mt, fun i hi => owns_grown (h.row i hi) (grown_set' _ _ _ _) (fun g hu e => by cases e; have := ((h.row i hi).lt _ hu).1; have := h.lt; omega), h.apart, h.lt.1, by simpa using h.lt.2⟩
theorem run_mk31 (c : Nat) (hc : c ≤ 1000) (w : World) : (Instr.makeSlice 31 (.int .i64 (c : Int)) (.int .i64 (c : Int))).run Try.prog w = .ok (.slice (some ⟨w.heap.size, 0, none⟩) c c) (w.alloc (.cells (madeCells #[.slice none 0 0] c) 37)) :=
  run_make_row' (P := Try.prog) 31 37 (.slice none 0 0) 24 Try.underlying31 Try.info37 rfl .i64 .i64 c (by omega) (by omega) w
theorem made_list (c : Nat) : madeCells #[.slice none 0 0] c = (List.replicate c (Value.slice none 0 0)).toArray := by
  apply Array.ext
  · simp [madeCells]
  · intro i h1 h2
    simp [madeCells, Nat.mod_one]
theorem Lr.start {at' z a : Int} {M N c b : Nat} {W : World} (h : W.heap[M]? = some (.cells (madeCells #[.slice none 0 0] c) 37)) (hM : M < N) (hN : N ≤ W.heap.size) : Lr M N c (rowsK at' z a b 0) (List.replicate c (.slice none 0 0)) W := by
  have hv : ∀ i, i < c → (List.replicate c (Value.slice none 0 0)).getD i undef = .slice none 0 0 := fun i hi => by simp [List.getD, hi]
  refine ⟨by simp, by rw [h, made_list], fun i hi => ?_, fun i j hi hj _ g hu => ?_, hM, hN⟩
  · rw [hv i hi, rowsK_zero]
    exact World.ownsRow_nil _ _ _ _
  · rw [hv i hi] at hu; cases hu

set_option maxRecDepth 100000 in
theorem lay30_bad (c b z s a k at' : Int) (Nd Na No Ne : Nat) (w : World) (h : L4 w Nd Na No Ne (.cells #[.int .i64 c, .int .i64 b, .int .i64 z, .int .i64 s, .int .i64 a, .int .i64 k] 25) at' (.slice none 0 0) 0 w) (hd : dealB c b z s a k = false) : Calls Try.prog 30 #[at0 Nd, at0 Na, at0 No, at0 Ne] w (ClosB (.tuple #[]) 1 w) := by
  have HV : Hid (∀ x, Calls Try.prog 26 #[.agg #[.int .i64 c, .int .i64 b, .int .i64 z, .int .i64 s, .int .i64 a, .int .i64 k]] x fun e w' => e = .panicked (misfit 1) ∧ Below x.heap.size x w') := Lib.hid (by have := mustDeal_any c b z s a k; rw [hd] at this; exact this)
  obtain ⟨e0, e1, e2, e3, e4, e5⟩ := cells6 h.hd
  clear h hd
  go_enter Try.func30, Try.ntmps30
  go_wp2_with (go_at_call 26; (with_reducible refine (HV.out _).mono ?_); rintro e w1 ⟨rfl, hb⟩; have HB := Lib.hid hb; clear hb)
  exact ⟨rfl, rfl, HB.out⟩
set_option maxRecDepth 100000 in
theorem lay30_range (c b z s a k at' : Int) (Nd Na No Ne : Nat) (w : World) (h : L4 w Nd Na No Ne (.cells #[.int .i64 c, .int .i64 b, .int .i64 z, .int .i64 s, .int .i64 a, .int .i64 k] 25) at' (.slice none 0 0) 0 w) (hd : dealB c b z s a k = true) (ha : inB at' 0 1000000000 = false) : Calls Try.prog 30 #[at0 Nd, at0 Na, at0 No, at0 Ne] w (ClosB (.tuple #[]) 7 w) := by
  have HV : Hid (∀ x, Calls Try.prog 26 #[.agg #[.int .i64 c, .int .i64 b, .int .i64 z, .int .i64 s, .int .i64 a, .int .i64 k]] x fun e w' => e = .returned (.tuple #[]) ∧ Below x.heap.size x w') := Lib.hid (by have := mustDeal_any c b z s a k; rw [hd] at this; exact this)
  have HI := Lib.hid within_any
  have HMU := Lib.hid must_b
  have HQ := Lib.hid h
  obtain ⟨e0, e1, e2, e3, e4, e5⟩ := cells6 h.hd
  clear h hd
  go_enter Try.func30, Try.ntmps30
  go_upto_region 1 with (go_at_call 26; (with_reducible refine (HV.out _).mono ?_); rintro e w1 ⟨rfl, hb⟩; have HB := Lib.hid hb; clear hb)
  have pc := cell1 (HQ.out.below HB.out).ha
  clear e0 e1 e2 e3 e4 e5
  go_wp2_with (first
    | (go_at_call 18; (with_reducible refine (HI.out _ _ _ _).mono ?_); rintro e w3 ⟨rfl, rfl⟩; rw [ha])
    | (go_at_call 17; (with_reducible refine (HMU.out _ _ _).mono ?_); rintro e w3 ⟨rfl, rfl⟩; simp only [Bool.false_eq_true, if_false]))
  exact ⟨rfl, rfl, HB.out⟩
/-- What Lay leaves behind. -/
structure LayQ (d : DealP) (at' : Int) (No Ne : Nat) (w w' : World) : Prop where
  tw : Two No Ne w w'
  ex : ∃ v, w'.heap[No]? = some (.cells #[v] 31) ∧ MatNew w.heap.size w' (laidTo at' d.z d.a d.b d.c) v
  he : w'.heap[Ne]? = some (.cells #[.int .i64 (endK at' d.z d.a (d.c * d.b))] 3)
set_option maxHeartbeats 4000000 in
set_option maxRecDepth 100000 in
theorem lay30_yes (d : DealP) (hin : d.In) (hdb : dealB d.c d.b d.z d.s d.a d.k = true) (at' : Int) (hat : inB at' 0 1000000000 = true) (Nd Na No Ne : Nat) (w : World) (hne : No ≠ Nd ∧ No ≠ Na ∧ No ≠ Ne ∧ Ne ≠ Nd ∧ Ne ≠ Na)
    (h : L4 w Nd Na No Ne (.cells #[.int .i64 d.c, .int .i64 d.b, .int .i64 d.z, .int .i64 d.s, .int .i64 d.a, .int .i64 d.k] 25) at' (.slice none 0 0) 0 w) :
    Calls Try.prog 30 #[at0 Nd, at0 Na, at0 No, at0 Ne] w fun e w' => e = .returned (.tuple #[]) ∧ LayQ d at' No Ne w w' := by
  have HV : Hid (∀ x, Calls Try.prog 26 #[d.v] x fun e w' => e = .returned (.tuple #[]) ∧ Below x.heap.size x w') := Lib.hid (by have := mustDeal_any d.c d.b d.z d.s d.a d.k; rw [hdb] at this; exact this)
  have HI := Lib.hid within_any
  have HMU := Lib.hid must_b
  have HLD := Lib.hid (laid31_any d at')
  have hati := inB_t hat
  have HEN := Lib.hid (end_any d hin at' hati)
  have HMK := Lib.hid (run_mk31 d.c (by have := hin.c; omega))
  have HIN := Lib.hid hin
  have HAT := Lib.hid hati
  have HNE := Lib.hid hne
  have HQ := Lib.hid h
  have hl0 : Nd < w.heap.size ∧ Na < w.heap.size ∧ No < w.heap.size ∧ Ne < w.heap.size := ⟨(Array.getElem?_eq_some_iff.1 h.hd).1, (Array.getElem?_eq_some_iff.1 h.ha).1, (Array.getElem?_eq_some_iff.1 h.ho).1, (Array.getElem?_eq_some_iff.1 h.he).1⟩
  have HL0 := Lib.hid hl0
  obtain ⟨e0, e1, e2, e3, e4, e5⟩ := cells6 h.hd
  clear h hdb hati hin hne hl0
  refine (callsIn_wide (n := 9)).1 ?_
  refine callsIn_of_wp_marks Try.func30 rfl trivial ?_ rfl
  simp only [Try.ntmps30, List.size_toArray, List.length_cons, List.length_nil, Nat.reduceAdd, Nat.reduceSub, Array.replicate_succ, Array.replicate_zero, List.push_toArray, List.append_toArray, List.nil_append, List.cons_append]
  gi_wp2
  refine ⟨trivial, (callsIn_wide.2 (HV.out _)).mono ?_⟩
  rintro e w1 ⟨rfl, hb⟩
  have HQ1 := Lib.hid (HQ.out.below hb)
  clear hb e0 e1 e2 e3 e4 e5
  have pc := cell1 HQ1.out.ha
  gi_wp2
  refine ⟨trivial, (callsIn_wide.2 (HI.out _ _ _ _)).mono ?_⟩
  rintro e w3 ⟨rfl, rfl⟩
  rw [hat]
  gi_wp2
  refine ⟨trivial, (callsIn_wide.2 (HMU.out _ _ _)).mono ?_⟩
  rintro e w3 ⟨rfl, rfl⟩
  simp only [if_true]
  clear hat
  obtain ⟨e0, e1, e2, e3, e4, e5⟩ := cells6 HQ1.out.hd
  obtain ⟨M, hM⟩ : ∃ M, w1.heap.size = M := ⟨_, rfl⟩
  have hmk := HMK.out w1
  rw [hM] at hmk
  have hoc := cell1 (keep_blk (below_box w1 (.cells (madeCells #[.slice none 0 0] d.c) 37)) HQ1.out.ho)
  have hoz := frozen_blk (off := 0) (keep_blk (below_box w1 (.cells (madeCells #[.slice none 0 0] d.c) 37)) HQ1.out.ho)
  have q2 := (HQ1.out.below (below_box w1 (.cells (madeCells #[.slice none 0 0] d.c) 37)))
  have hm2 : (w1.alloc (.cells (madeCells #[.slice none 0 0] d.c) 37)).heap[M]? = some (.cells (madeCells #[.slice none 0 0] d.c) 37) := by rw [← hM]; exact blk_alloc_new _ _
  have hMw : Hid (w.heap.size ≤ M) := Lib.hid (by rw [← hM]; exact HQ1.out.tw.2.1)
  have hs2 : (w1.alloc (.cells (madeCells #[.slice none 0 0] d.c) 37)).heap.size = M + 1 := by simp [hM]
  obtain ⟨Y0, hY0⟩ : ∃ Y0, w1.alloc (.cells (madeCells #[.slice none 0 0] d.c) 37) = Y0 := ⟨_, rfl⟩
  rw [hY0] at hmk hoc hoz q2 hm2 hs2
  obtain ⟨Y, hY⟩ : ∃ Y, Y0.setCell ⟨No, 0, none⟩ (.slice (some ⟨M, 0, none⟩) d.c d.c) = Y := ⟨_, rfl⟩
  have q3 : L4 w Nd Na No Ne (.cells #[.int .i64 d.c, .int .i64 d.b, .int .i64 d.z, .int .i64 d.s, .int .i64 d.a, .int .i64 d.k] 25) at' (.slice (some ⟨M, 0, none⟩) d.c d.c) 0 Y := by
    have hn := HNE.out
    rw [← hY]
    refine ⟨(blk_setCell_other _ _ _ _ (fun e => hn.1 e.symm)).trans q2.hd, (blk_setCell_other _ _ _ _ (fun e => hn.2.1 e.symm)).trans q2.ha, blk_set q2.ho, (blk_setCell_other _ _ _ _ (fun e => hn.2.2.1 e.symm)).trans q2.he, q2.tw.trans (Two.setA _ _ _ _ _)⟩
  have hm3 : Y.heap[M]? = some (.cells (madeCells #[.slice none 0 0] d.c) 37) := by
    rw [← hY]
    exact (blk_setCell_other _ _ _ _ (by show M ≠ No; have := HL0.out; have := hMw.out; omega)).trans hm2
  have hs3 : Y.heap.size = M + 1 := by rw [← hY]; simp [hs2]
  obtain ⟨g0, g1, g2, g3, g4, g5⟩ := cells6 q3.hd
  have pc3 := cell1 q3.ha
  have HQ3 := Lib.hid q3
  clear q2 q3 hm2
  gi_wp2

  refine ⟨trivial, (callsIn_wide.2 (HLD.out _)).mono ?_⟩
  rintro e w3 ⟨rfl, rfl⟩
  obtain ⟨W0, hW0⟩ : ∃ W0, (Y.alloc d.o).alloc (.cells #[.int .i64 at'] 3) = W0 := ⟨_, rfl⟩
  rw [hW0, hs3]
  have hsz0 : W0.heap.size = M + 3 := by rw [← hW0]; simp [hs3]
  have hcopy : DealAt (M + 1) d.c d.b d.z d.a W0 := by
    rw [← hW0, ← hs3]
    exact (dealAt_new d Y).keep (blk_alloc_lt _ _ _ (by simp))
  have hatc : W0.cell? ⟨M + 1 + 1, 0, none⟩ = some (.int .i64 at') := by
    have h9 := blk_alloc_new (Y.alloc d.o) (.cells #[.int .i64 at'] 3)
    rw [World.size_alloc, hs3, hW0] at h9
    unfold World.cell?
    rw [h9]
    rfl
  have hb02 : Below Y.heap.size Y W0 := by rw [← hW0]; exact ((Below.refl _ Y).alloc (Nat.le_refl _) _).alloc (by simp) _
  have hq4 := HQ3.out.below hb02
  have hr0 : Lr M (M + 3) d.c (rowsK at' d.z d.a d.b 0) (List.replicate d.c (.slice none 0 0)) W0 := Lr.start (keep_blk hb02 hm3) (by omega) (by omega)
  have hl : Nd < M ∧ Na < M ∧ No < M ∧ Ne < M := by have := HL0.out; have := hMw.out; omega
  have HLL := Lib.hid hl
  clear hW0 hm3 hY hY0 hmk hoc hoz e0 e1 e2 e3 e4 e5 g0 g1 g2 g3 g4 g5 pc pc3 hs2 hs3 hM hb02 hl
  gi_wp2
  have hin := HIN.out
  have ht := HAT.out
  refine range_z rfl (by omega) (gf := 50) (lb := #[at0 (M + 1 + 1), at0 (M + 1)]) rfl trivial (enters_of Try.func50 (by kernel_rfl) rfl)
    (laid_seq (9 - 1) (by omega) (M + 1 + 1) (M + 1) M d.c d.b at' d.z d.a W0 ht hin.c hin.b hin.z hin.a hcopy hatc) KpI.trans
    (fun W l o o' hl ho hc => KpI.put (by omega) (by omega) W o' (Array.getElem?_eq_some_iff.1 ho).1) (Below.refl _ _) (fun k hk => by rw [laidV_len] at hk; rw [laidV_at _ _ _ _ hk]; rfl)
    (fun k X => ∃ vals, Lr M (M + 3) d.c (rowsK at' d.z d.a d.b k) vals X ∧ L4 w Nd Na No Ne (.cells #[.int .i64 d.c, .int .i64 d.b, .int .i64 d.z, .int .i64 d.s, .int .i64 d.a, .int .i64 d.k] 25) at' (.slice (some ⟨M, 0, none⟩) d.c d.c) 0 X)
    (fun k X Y row hs hg hr => by
      obtain ⟨vals, h1, h2⟩ := hs
      exact ⟨vals, h1.far hg (fun r e => ⟨by have := (hr r e).1; omega, (hr r e).2⟩), h2.grown HLL.out hMw.out hg (fun r e => by have := (hr r e).1; omega)⟩)
    ⟨_, hr0, hq4⟩
    (fun k a' X => a' = { tmps := #[at0 Nd, at0 Na, at0 No, at0 Ne, .int .i64 ((k / d.b : Nat) : Int), .int .i64 (up (endK at' d.z d.a k) d.a), d.v, .tuple #[], .int .i64 at', .bool true, .tuple #[], .pointer (some ⟨Nd, 0, none⟩), .int .i64 (d.c : Int), .slice (some ⟨M, 0, none⟩) d.c d.c, d.v, .int .i64 at', .func (.func 50) #[] #[at0 (M + 1 + 1), at0 (M + 1)], .int .i64 ((k / d.b : Nat) : Int), .int .i64 (up (endK at' d.z d.a k) d.a), undef, undef, undef, undef, undef, undef, undef, undef, undef, undef, undef, undef, undef], defers := [] } ∧ ∃ vals, Lr M (M + 3) d.c (rowsK at' d.z d.a d.b k) vals X ∧ L4 w Nd Na No Ne (.cells #[.int .i64 d.c, .int .i64 d.b, .int .i64 d.z, .int .i64 d.s, .int .i64 d.a, .int .i64 d.k] 25) at' (.slice (some ⟨M, 0, none⟩) d.c d.c) 0 X)
    (fun k a' _ X Y row hs hg hr => by
      obtain ⟨h0, vals, h1, h2⟩ := hs
      exact ⟨h0, vals, h1.far hg (fun r e => ⟨by have := (hr r e).1; omega, (hr r e).2⟩), h2.grown HLL.out hMw.out hg (fun r e => by have := (hr r e).1; omega)⟩)
    ?assign ?body ?done
  case assign =>
    rintro l k X K hk hI hK
    rw [laidV_len] at hk
    rw [laidV_at _ _ _ _ hk]
    clear hcopy hatc hr0 hq4
    gi_wp2
    exact hK _ _ (KeepsFrom.refl _ _) (KpI.refl _ _ _) ⟨rfl, hI⟩
  case body =>
    rintro l k a' X ⟨rfl, vals, hLr, hL4⟩ hk
    rw [laidV_len] at hk
    have hi : k / d.b < d.c := (Nat.div_lt_iff_lt_mul (by have := hin.b; omega)).2 hk
    have hk2 : k < 512 := Nat.lt_of_lt_of_le hk (Nat.mul_le_mul hin.c.2 hin.b.2)
    have hF1 := rowsK_same (at' := at') (z := d.z) (a := d.a) (b := d.b) (k := k) hin.b.1
    have hF2 : ∀ j, j < d.c → j ≠ k / d.b → rowsK at' d.z d.a d.b (k + 1) j = rowsK at' d.z d.a d.b k j := fun j _ hj => rowsK_other hin.b.1 hj
    obtain ⟨i, hik⟩ : ∃ i, k / d.b = i := ⟨_, rfl⟩
    rw [hik] at hi hF1 hF2 ⊢
    obtain ⟨U, hU⟩ : ∃ U, up (endK at' d.z d.a k) d.a = U := ⟨_, rfl⟩
    rw [hU] at hF1 ⊢
    have w4 : (i : Int) < (d.c : Int) := by omega
    have w5 : (0 : Int) ≤ (i : Int) := by omega
    have hn8 : (rowsK at' d.z d.a d.b k i).length ≤ 8 := Nat.le_trans rowsK_len hin.b.2
    obtain ⟨pv, cv, hvi⟩ := slice_owns3 (hLr.row i hi)
    obtain ⟨n, hn⟩ : ∃ n, (rowsK at' d.z d.a d.b k i).length = n := ⟨_, rfl⟩
    rw [hn] at hvi hn8
    have hL4m := hLr.mt
    have hdr : Below X.heap.size X X.drew := ⟨rfl, rfl, rfl, Nat.le_refl _, fun _ _ => rfl⟩
    have hLd := hLr.below hdr
    have hQd := hL4.below hdr
    have HF := Lib.hid (And.intro hF1 hF2)
    clear hcopy hatc hr0 hq4 hik hU hF1 hF2 hk hLr hL4
    gi_wp2
    refine regionIn_T (S := fun wx => wx.heap[No]? = some (.cells #[.slice (some ⟨M, 0, none⟩) d.c d.c] 31) ∧ wx.heap[M]? = some (.cells vals.toArray 37)) [10] (by kernel_rfl) ⟨hQd.ho, hLd.mt⟩ (fun _ => ?_)
    obtain ⟨X9, hX9⟩ : ∃ X9, X.drew = X9 := ⟨_, rfl⟩
    rw [hX9] at hLd hQd hdr ⊢
    clear hX9
    have hlen : i < vals.length := by rw [hLd.len]; exact hi
    refine anyTI_take (i := 0) (v := ?_) rfl (by kernel_rfl) (by kernel_rfl) (by kernel_rfl) (by kernel_rfl) (fun _ _ _ h => h) ⟨Or.inl ⟨by rfl, ?_⟩, fun _ => rfl⟩ ⟨hQd.ho, hLd.mt⟩ ?_
    rotate_left
    focus ((intro wq hSw; have c0 := cell1 hSw.1; have c1 := cellM hSw.2 hlen hvi; go_simp); try with_reducible rfl)
    try simp only [Act.put, List.getElem_toArray, List.getElem_cons_succ, List.getElem_cons_zero, List.setIfInBounds_toArray, List.set_cons_zero, List.set_cons_succ]
    refine anyTI_take (i := 1) (v := ?_) rfl (by kernel_rfl) (by kernel_rfl) (by kernel_rfl) (by kernel_rfl) (fun _ _ _ h => h) ⟨Or.inl ⟨by rfl, ?_⟩, fun _ => rfl⟩ ⟨hQd.ho, hLd.mt⟩ ?_
    rotate_left
    focus ((intro wq hSw; have c0 := cell1 hSw.1; have c1 := cellM hSw.2 hlen hvi; go_simp); try with_reducible rfl)
    try simp only [Act.put, List.getElem_toArray, List.getElem_cons_succ, List.getElem_cons_zero, List.setIfInBounds_toArray, List.set_cons_zero, List.set_cons_succ]
    refine anyTI_take (i := 2) (v := ?_) rfl (by kernel_rfl) (by kernel_rfl) (by kernel_rfl) (by kernel_rfl) (fun _ _ _ h => h) ⟨Or.inl ⟨by rfl, ?_⟩, fun _ => rfl⟩ ⟨hQd.ho, hLd.mt⟩ ?_
    rotate_left
    focus ((intro wq hSw; have c0 := cell1 hSw.1; have c1 := cellM hSw.2 hlen hvi; go_simp); try with_reducible rfl)
    try simp only [Act.put, List.getElem_toArray, List.getElem_cons_succ, List.getElem_cons_zero, List.setIfInBounds_toArray, List.set_cons_zero, List.set_cons_succ]
    refine anyTI_take (i := 3) (v := ?_) rfl (by kernel_rfl) (by kernel_rfl) (by kernel_rfl) (by kernel_rfl) (fun _ _ _ h => h) ⟨Or.inl ⟨by rfl, ?_⟩, fun _ => rfl⟩ ⟨hQd.ho, hLd.mt⟩ ?_
    rotate_left
    focus ((intro wq hSw; have c0 := cell1 hSw.1; have c1 := cellM hSw.2 hlen hvi; go_simp); try with_reducible rfl)
    try simp only [Act.put, List.getElem_toArray, List.getElem_cons_succ, List.getElem_cons_zero, List.setIfInBounds_toArray, List.set_cons_zero, List.set_cons_succ]
    refine anyTI_take (i := 4) (v := ?_) rfl (by kernel_rfl) (by kernel_rfl) (by kernel_rfl) (by kernel_rfl) (fun _ _ _ h => h) ⟨Or.inl ⟨by rfl, ?_⟩, fun _ => rfl⟩ ⟨hQd.ho, hLd.mt⟩ ?_
    rotate_left
    focus ((intro wq hSw; have c0 := cell1 hSw.1; have c1 := cellM hSw.2 hlen hvi; go_simp); try with_reducible rfl)
    try simp only [Act.put, List.getElem_toArray, List.getElem_cons_succ, List.getElem_cons_zero, List.setIfInBounds_toArray, List.set_cons_zero, List.set_cons_succ]
    refine anyTI_take (i := 5) (v := ?_) rfl (by kernel_rfl) (by kernel_rfl) (by kernel_rfl) (by kernel_rfl) (fun _ _ _ h => h) ⟨Or.inl ⟨by rfl, ?_⟩, fun _ => rfl⟩ ⟨hQd.ho, hLd.mt⟩ ?_
    rotate_left
    focus ((intro wq hSw; have c0 := cell1 hSw.1; have c1 := cellM hSw.2 hlen hvi; go_simp); try with_reducible rfl)
    try simp only [Act.put, List.getElem_toArray, List.getElem_cons_succ, List.getElem_cons_zero, List.setIfInBounds_toArray, List.set_cons_zero, List.set_cons_succ]
    refine anyTI_take (i := 6) (v := ?_) rfl (by kernel_rfl) (by kernel_rfl) (by kernel_rfl) (by kernel_rfl) (fun _ _ _ h => h) ⟨Or.inl ⟨by rfl, ?_⟩, fun _ => rfl⟩ ⟨hQd.ho, hLd.mt⟩ ?_
    rotate_left
    focus ((intro wq hSw; have c0 := cell1 hSw.1; have c1 := cellM hSw.2 hlen hvi; go_simp); try with_reducible rfl)
    try simp only [Act.put, List.getElem_toArray, List.getElem_cons_succ, List.getElem_cons_zero, List.setIfInBounds_toArray, List.set_cons_zero, List.set_cons_succ]
    have hS7 : (X9.alloc (.cells #[.int .i64 U] 3)).heap[No]? = some (.cells #[.slice (some ⟨M, 0, none⟩) d.c d.c] 31) ∧ (X9.alloc (.cells #[.int .i64 U] 3)).heap[M]? = some (.cells vals.toArray 37) := ⟨blk_old hQd.ho, blk_old hLd.mt⟩
    refine anyTI_one (i := 7) (by kernel_rfl) rfl (fun K hK => ?_)
    go_simp
    refine hK _ _ (fun _ => hS7) ?_
    clear hK K
    try simp only [Act.put, List.getElem_toArray, List.getElem_cons_succ, List.getElem_cons_zero, List.setIfInBounds_toArray, List.set_cons_zero, List.set_cons_succ]
    obtain ⟨i0, hi0, hz0, hz1, hz2⟩ := info_parts Try.info3
    have hL1 : Lr M (M + 3) d.c (rowsK at' d.z d.a d.b k) vals (X9.alloc (.cells #[.int .i64 U] 3)) := hLd.below (below_box _ _)
    have hQ1 := hQd.below (below_box X9 (.cells #[.int .i64 U] 3))
    have hrw := hL1.row i hi
    rw [hn] at hrw
    obtain ⟨v', w2, hrun, hown, hg, hm⟩ := run_append_moves (P := Try.prog) (X9.alloc (.cells #[.int .i64 U] 3)) (M + 3) 37 37 3 i0 _ 1 8 Try.underlying37 hi0 hz0 hz1 hz2 rfl (by decide) (vals.getD i undef) n _ hrw ⟨X9.heap.size, 0, none⟩ 1 1 [.int .i64 U] rfl (cell_one_new _ _ _) (by simp [Value.oneCell']) (by unfold maxLen; omega) (by omega) hL1.lt.2
    have hrow : ∀ r, (vals.getD i undef).ownBlock = some r → M + 3 ≤ r := fun r e => (hrw.lt r e).1
    have hQ2 := hQ1.grown HLL.out hMw.out hg (fun r e => by have := hrow r e; omega)
    have hM2 : w2.heap[M]? = some (.cells vals.toArray 37) := (hg.block M (Array.getElem?_eq_some_iff.1 hL1.mt).1 (fun e => by have := hrow M e.symm; omega)).trans hL1.mt
    rw [hvi] at hrun
    obtain ⟨gb, cap, hv'⟩ := ownsRow_succ hown
    have HG := Lib.hid hg
    have HM2 := Lib.hid hm
    have HOWN := Lib.hid hown
    have HL1 := Lib.hid hL1
    clear hg hm hrw hown hL1 hQ1 hS7 hi0 hz0 hz1 hz2 hLd
    refine anyTI_one (i := 8) (by kernel_rfl) rfl (fun K hK => ?_)
    refine op_append_in rfl (.tmp 24) (.tmp 26) rfl hrun rfl rfl ?_
    refine hK _ _ (fun _ => ⟨hQ2.ho, hM2⟩) ?_
    clear hK K hrun
    try simp only [Act.put, List.getElem_toArray, List.getElem_cons_succ, List.getElem_cons_zero, List.setIfInBounds_toArray, List.set_cons_zero, List.set_cons_succ]
    refine anyTI_take (i := 9) (v := ?_) rfl (by kernel_rfl) (by kernel_rfl) (by kernel_rfl) (by kernel_rfl) (fun _ _ _ h => h) ⟨Or.inl ⟨by rfl, ?_⟩, fun _ => rfl⟩ ⟨hQ2.ho, hM2⟩ ?_
    rotate_left
    focus ((intro wq hSw; have c0 := cell1 hSw.1; have c1 := cellM hSw.2 hlen hvi; go_simp); try with_reducible rfl)
    try simp only [Act.put, List.getElem_toArray, List.getElem_cons_succ, List.getElem_cons_zero, List.setIfInBounds_toArray, List.set_cons_zero, List.set_cons_succ]
    subst hv'
    have c1 := cellM hM2 hlen hvi
    have z1 := frozen_blk (off := i) hM2
    refine anyTI_one (i := 10) (by kernel_rfl) rfl (fun K hK => ?_)
    go_simp
    refine hK _ _ (fun h => by cases h) ?_
    clear hK K
    refine anyTI_done (by kernel_rfl) ?_ _
    have hst := HL1.out.step (v' := .slice (some ⟨gb, 0, none⟩) (n + 1) cap) (U := U) (F' := rowsK at' d.z d.a d.b (k + 1)) (w2 := w2) (W := X) hi (by rw [hn]; simpa using HOWN.out) HG.out HM2.out HF.out.1 HF.out.2
    have hq3 := hQ2.grown HLL.out hMw.out (grown_set' w2 M i (.slice (some ⟨gb, 0, none⟩) (n + 1) cap)) (fun r e => by cases e; exact Nat.le_refl _)
    have hsX : M ≤ X.heap.size := by have := HL1.out.lt.2; have := hdr.size; have := (Array.getElem?_eq_some_iff.1 hL4m).1; omega
    have hk1 : KeepsFrom W0.heap.size X X9 := keeps_cells (row := none) ⟨hdr.os, hdr.tape, hdr.output, hdr.size, fun k hk _ => hdr.block k hk⟩ (fun r e => by cases e)
    have hk2 : KeepsFrom W0.heap.size X9 (X9.alloc (.cells #[.int .i64 U] 3)) := keeps_cells (row := none) (World.grownBy_alloc _ _ none) (fun r e => by cases e)
    have hk3 : KeepsFrom W0.heap.size (X9.alloc (.cells #[.int .i64 U] 3)) w2 := keeps_cells HG.out (fun r e => owns_cells (HL1.out.row i hi) e)
    have hk4 : KeepsFrom W0.heap.size w2 (w2.setCell ⟨M, i, none⟩ (.slice (some ⟨gb, 0, none⟩) (n + 1) cap)) := keeps_blk_set hM2
    have hbM : Below M X (w2.setCell ⟨M, i, none⟩ (.slice (some ⟨gb, 0, none⟩) (n + 1) cap)) := by
      refine Below.setCell (Below.grown (Below.alloc (hdr.mono hsX) (Nat.le_trans hsX hdr.size) _) HG.out (by have := hdr.size; simp; omega) (fun r e => by have := hrow r e; omega)) (Nat.le_refl _) _
    have hK1 : ∀ o, X.heap[M + 1]? = some o → (w2.setCell ⟨M, i, none⟩ (.slice (some ⟨gb, 0, none⟩) (n + 1) cap)).heap[M + 1]? = some o := fun o ho => by
      have h1 := keep_blk hdr ho
      have h2 : (X9.alloc (.cells #[.int .i64 U] 3)).heap[M + 1]? = some o := blk_old h1
      have h3 : w2.heap[M + 1]? = some o := (HG.out.block (M + 1) (Array.getElem?_eq_some_iff.1 h2).1 (fun e => by have := hrow (M + 1) e.symm; omega)).trans h2
      exact (blk_setCell_other _ _ _ _ (by show M + 1 ≠ M; omega)).trans h3
    exact ⟨rfl, hk1.trans (hk2.trans (hk3.trans hk4)), ⟨hbM, fun o ho _ => hK1 o ho⟩, _, hst, hq3⟩
  case done =>
    rintro D X hD ⟨vals, hLr, hL4⟩ hKD
    rw [laidV_len] at hLr
    obtain ⟨g0, g1, g2, g3, g4, g5⟩ := cells6 hL4.hd
    have pc := cell1 hL4.ha
    have HL5 := Lib.hid hL4
    have HLR := Lib.hid hLr
    have HKD := Lib.hid hKD
    have HD := Lib.hid (show Ne < D ∧ M < D by have := HLL.out; omega)
    clear hcopy hatc hr0 hq4 hLr hL4 hKD
    gi_wp2
    refine ⟨trivial, (callsIn_wide.2 (HEN.out _)).mono ?_⟩
    rintro e w5 ⟨rfl, hb5⟩
    have hq5 := HL5.out.below hb5
    have hr5 := HLR.out.below hb5
    have hkd5 := keep_blk hb5 HKD.out
    have ec := cell1 hq5.he
    have ez := frozen_blk (off := 0) hq5.he
    have hkd6 : (w5.setCell ⟨Ne, 0, none⟩ (.int .i64 (endK at' d.z d.a (d.c * d.b)))).heap[D]? = some (.deferred (some [])) := (blk_setCell_other _ _ _ _ (by show D ≠ Ne; have := HD.out; omega)).trans hkd5
    have HR5 := Lib.hid hr5
    have HQ5 := Lib.hid hq5
    have HK6 := Lib.hid hkd6
    clear hb5 hq5 hr5 hkd5 hkd6
    gi_wp2
    have hn := HNE.out
    have hd := HD.out
    have hl0 := HL0.out
    have hmw := hMw.out
    have hc6 : (w5.setCell ⟨Ne, 0, none⟩ (.int .i64 (endK at' d.z d.a (d.c * d.b)))).heap[D]? = some (.deferred (some [])) := HK6.out
    have hr6 : Lr M (M + 3) d.c (rowsK at' d.z d.a d.b (d.c * d.b)) vals ((w5.setCell ⟨Ne, 0, none⟩ (.int .i64 (endK at' d.z d.a (d.c * d.b)))).putObj D (.deferred none)) :=
      (HR5.out.lower (by have := HLL.out; omega) _).far (grownBy_putObj' _ D (.deferred none)) (fun r e => by cases e; exact ⟨by omega, _, hc6, rfl⟩)
    have hmat := hr6.mat (rows := laidTo at' d.z d.a d.b d.c) (laidTo_len _ _ _ _ _) (fun i hi => by rw [rowsK_all hi]; simp [laidTo, List.getD, hi]) (fun i hi => by
      rw [rowsK_all hi]
      have h3 : (i + 1) * d.b ≤ d.c * d.b := Nat.mul_le_mul_right _ hi
      rw [Nat.add_mul, Nat.one_mul] at h3
      have h4 : d.c * d.b ≤ 64 * 8 := Nat.mul_le_mul hin.c.2 hin.b.2
      exact laidRow_ok ht hin.z hin.a (by omega)) (by have := hin.c; omega)
    have t1 : Two No Ne w (w5.setCell ⟨Ne, 0, none⟩ (.int .i64 (endK at' d.z d.a (d.c * d.b)))) := HQ5.out.tw.trans (Two.setB _ _ _ _ _)
    refine ⟨by simp, .inl ⟨_, _, rfl, run_takeDeferred HK6.out, ?_⟩⟩
    refine ⟨_, results_none rfl _ _ _, rfl, ⟨t1.1, Nat.le_trans t1.2.1 (by simp [World.putObj]), fun k ha hb hlt => (World.putObj_heap_other (by omega)).trans (t1.2.2 k ha hb hlt)⟩, ⟨_, ?_, hmat.mono hmw (Nat.le_refl _) (fun _ _ _ => rfl)⟩, ?_⟩
    · exact (World.putObj_heap_other (by omega)).trans ((blk_setCell_other _ _ _ _ (by show No ≠ Ne; exact hn.2.2.1)).trans HQ5.out.ho)
    · exact (World.putObj_heap_other (by omega)).trans (blk_set HQ5.out.he)
end Go.Proofs.Ytinlcgcnjlifkaa
