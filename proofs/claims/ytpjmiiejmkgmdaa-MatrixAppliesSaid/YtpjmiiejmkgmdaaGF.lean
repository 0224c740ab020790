/- Plain matrices: the program's. -/
import Derived.Test.YtpjmiiejmkgmdaaGE
import Derived.Test.YtpjmiiejmkgmdaaGC
import Derived.Test.YtpjmiiejmkgmdaaFB
namespace Go.Proofs.Ytpjmiiejmkgmdaa
open Go.RowKit Go.Deep Go.Shelf
attribute [local go_sem] Oper.semAt_some

/-- What has been seen: which rows, which columns. -/
def rowsIn (l : List Wt) (j : Nat) : Bool := l.any fun x => decide (x.1.1 = j)
def colsIn (l : List Wt) (j : Nat) : Bool := l.any fun x => decide (x.1.2 = j)
/-- So far all is plain. -/
def OkW (l : List Wt) : Prop := (∀ x ∈ l, x.2 = 65536) ∧ l.Pairwise fun x y => x.1.1 ≠ y.1.1 ∧ x.1.2 ≠ y.1.2
/-- The last one is not. -/
def BadW (l : List Wt) : Prop := ∃ pre x, l = pre ++ [x] ∧ (x.2 ≠ 65536 ∨ rowsIn pre x.1.1 = true ∨ colsIn pre x.1.2 = true)
theorem OkW.snoc {l : List Wt} {x : Wt} (h : OkW l) (h1 : x.2 = 65536) (h2 : rowsIn l x.1.1 = false) (h3 : colsIn l x.1.2 = false) : OkW (l ++ [x]) := by
  refine ⟨fun y hy => ?_, List.pairwise_append.2 ⟨h.2, by simp, fun a ha b hb => ?_⟩⟩
  · rcases List.mem_append.1 hy with hy | hy
    · exact h.1 y hy
    · simp at hy; subst hy; exact h1
  · simp at hb; subst hb
    unfold rowsIn at h2; unfold colsIn at h3
    rw [List.any_eq_false] at h2 h3
    exact ⟨by simpa using h2 a ha, by simpa using h3 a ha⟩
theorem pair_two {R : Wt → Wt → Prop} (sym : ∀ x y, R x y → R y x) : ∀ {l : List Wt}, l.Pairwise R → ∀ a b, a ∈ l → b ∈ l → a = b ∨ R a b
  | [], _, _, _, ha, _ => by cases ha
  | x :: l, h, a, b, ha, hb => by
    rw [List.pairwise_cons] at h
    rcases List.mem_cons.1 ha with e1 | h1
    · rcases List.mem_cons.1 hb with e2 | h2
      · exact .inl (e1.trans e2.symm)
      · rw [e1]; exact .inr (h.1 b h2)
    · rcases List.mem_cons.1 hb with e2 | h2
      · rw [e2]; exact .inr (sym _ _ (h.1 a h1))
      · exact pair_two sym h.2 a b h1 h2
theorem plain_of_ok {m : List (List Int)} (hl : ∀ j, j < m.length → (m.getD j []).length = cols m) (h : OkW (nzTo m m.length)) : PlainP m := by
  intro i k hi hk hne
  have hx := mem_nzTo hi (by rw [hl i hi]; exact hk) hne
  have two := fun a b => pair_two (R := fun x y : Wt => x.1.1 ≠ y.1.1 ∧ x.1.2 ≠ y.1.2) (fun x y h => ⟨fun e => h.1 e.symm, fun e => h.2 e.symm⟩) h.2 a b
  refine ⟨h.1 _ hx, fun n hn hnk => ?_, fun n hn hni => ?_⟩
  · rcases Classical.em (wAt m i n = 0) with e | e
    · exact e
    · have hy := mem_nzTo hi (by rw [hl i hi]; exact hn) e
      rcases two _ _ hx hy with h1 | h1
      · simp only [Prod.mk.injEq, true_and] at h1; exact absurd h1.1.symm hnk
      · exact absurd rfl h1.1
  · rcases Classical.em (wAt m n k = 0) with e | e
    · exact e
    · have hy := mem_nzTo hn (by rw [hl n hn]; exact hk) e
      rcases two _ _ hx hy with h1 | h1
      · simp only [Prod.mk.injEq, and_true] at h1; exact absurd h1.1.symm hni
      · exact absurd rfl h1.2
theorem not_plain_of_bad {m : List (List Int)} (hl : ∀ j, j < m.length → (m.getD j []).length = cols m) {l : List Wt} (hp : l <+: nzTo m m.length) (h : BadW l) : ¬ PlainP m := by
  obtain ⟨pre, x, rfl, hx⟩ := h
  intro hP
  have hmem : ∀ y ∈ pre ++ [x], y ∈ nzTo m m.length := fun y hy => hp.subset hy
  have hxm := nzTo_mem (hmem x (by simp))
  have hnd := (nzTo_nodup m m.length).sublist (hp.sublist.map Prod.fst)
  rw [List.map_append, List.nodup_append] at hnd
  have hxP := hP x.1.1 x.1.2 hxm.1 (by rw [← hl _ hxm.1]; exact hxm.2.1) (by rw [← hxm.2.2.1]; exact hxm.2.2.2)
  rcases hx with h | h | h
  · exact h (hxm.2.2.1.trans hxP.1)
  · unfold rowsIn at h
    rw [List.any_eq_true] at h
    obtain ⟨y, hy, he⟩ := h
    have he' : y.1.1 = x.1.1 := by simpa using he
    have hym := nzTo_mem (hmem y (by simp [hy]))
    have hne : y.1.2 ≠ x.1.2 := fun e => hnd.2.2 y.1 (List.mem_map.2 ⟨y, hy, rfl⟩) x.1 (by simp) (Prod.ext he' e)
    have h0 := hxP.2.1 y.1.2 (by have := hym.2.1; rw [hl _ hym.1] at this; exact this) hne
    rw [← he', ← hym.2.2.1] at h0
    exact hym.2.2.2 h0
  · unfold colsIn at h
    rw [List.any_eq_true] at h
    obtain ⟨y, hy, he⟩ := h
    have he' : y.1.2 = x.1.2 := by simpa using he
    have hym := nzTo_mem (hmem y (by simp [hy]))
    have hne : y.1.1 ≠ x.1.1 := fun e => hnd.2.2 y.1 (List.mem_map.2 ⟨y, hy, rfl⟩) x.1 (by simp) (Prod.ext e he')
    have h0 := hxP.2.2 y.1.1 hym.1 hne
    rw [← he', ← hym.2.2.1] at h0
    exact hym.2.2.2 h0

theorem rowIs_set8 {W : World} {B : Nat} {f g : Nat → Bool} {i : Nat} (h : W.rowIs B 73 8 (fun j => .bool (f j))) (hg : ∀ j, g j = (decide (j = i) || f j)) : (W.setCell ⟨B, i, none⟩ (.bool true)).rowIs B 73 8 (fun j => .bool (g j)) :=
  (h.set i (.bool true)).congr fun j _ => by
    rw [hg j]
    by_cases e : j = i <;> simp [e]
theorem rowsIn_snoc (l : List Wt) (x : Wt) (j : Nat) : rowsIn (l ++ [x]) j = (decide (j = x.1.1) || rowsIn l j) := by
  unfold rowsIn
  rw [List.any_append, Bool.or_comm]
  simp [eq_comm]
theorem colsIn_snoc (l : List Wt) (x : Wt) (j : Nat) : colsIn (l ++ [x]) j = (decide (j = x.1.2) || colsIn l j) := by
  unfold colsIn
  rw [List.any_append, Bool.or_comm]
  simp [eq_comm]

def PlV (m : List (List Int)) (u : Value) (_ : World) : Prop := ∃ bb : Bool, u = .bool bb ∧ (bb = true ↔ PlainP m)

theorem box_two {W : World} {B : Nat} (h : Boxed W B 4 (.bool false)) (i k : Nat) : Boxed ((W.setCell ⟨B + 1, i, none⟩ (.bool true)).setCell ⟨B + 1 + 1, k, none⟩ (.bool true)).drew B 4 (.bool false) := by
  have h1 := h.kept (grownBy_setCell'' W ⟨B + 1, i, none⟩ (.bool true)) (fun e => by have e2 := Option.some.inj e; dsimp only at e2; omega)
  have h2 := h1.kept (grownBy_setCell'' (W.setCell ⟨B + 1, i, none⟩ (.bool true)) ⟨B + 1 + 1, k, none⟩ (.bool true)) (fun e => by have e2 := Option.some.inj e; dsimp only at e2; omega)
  exact h2
theorem results_box4 {fn : Func} {p : Tmp} (h : fn.results = #[.cell p 4]) (tmps : Array Value) (w : World) (B : Nat) (v : Value)
    (hp : tmps.getD p undef = .pointer (some ⟨B, 0, none⟩)) (hc : w.cell? ⟨B, 0, none⟩ = some v) : (results fn tmps).run Try.prog w = .ok v w := by
  have hp' : tmps[p]?.getD undef = .pointer (some ⟨B, 0, none⟩) := by simpa using hp
  simp [results, h, hp', asAddr]
  go_simp

set_option maxHeartbeats 8000000 in
set_option maxRecDepth 100000 in
theorem plain1_ok (m : List (List Int)) (va : Value) (Bm : Nat) (w : World) (ha : MatIn w m va) (hcm : w.cell? ⟨Bm, 0, none⟩ = some va) (hvm : validM m = true) :
    Calls Try.prog 54 #[.pointer (some ⟨Bm, 0, none⟩)] w (Gives (PlV m) w) := by
  obtain ⟨pm1, pm2, pm3, pm4⟩ := validM_parts hvm
  obtain ⟨a, ca, rfl, hin, _, _⟩ := id ha
  have HMM := Lib.hid ha
  have H55 := Lib.hid (fun (x : World) (hx : Below w.heap.size w x) => matrixOf_ok m a ca x (ha.mono (Same.of_below hx)) hvm)
  have HCM := Lib.hid (fun (x : World) (hx : Below w.heap.size w x) => (Same.of_below hx).cell hcm)
  have HP3 := Lib.hid pm3
  have hr : m.length ≤ 8 := pm1.2
  have hc8 : ∀ j, (m.getD j []).length ≤ 8 := fun j => by
    by_cases h : j < m.length
    · rw [pm3 j h]; omega
    · rw [getD_out (by omega)]; simp
  have HC8 := Lib.hid hc8
  have HFIT := Lib.hid (fun j k (hj : j < m.length) (hk : k < (m.getD j []).length) => show FitWt m.length (cols m) ((j, k), (m.getD j []).getD k 0) from ⟨hj, by rw [← pm3 j hj]; exact hk, pm4 j k⟩)
  have hcc : cols m ≤ 8 := pm2.2
  clear pm1 pm2 pm3 pm4 ha hvm hin hc8 hcm
  refine (callsIn_wide (n := 6)).1 ?_
  refine callsIn_of_wp_marks Try.func54 rfl trivial ?_ rfl
  simp only [Try.ntmps54, List.size_toArray, List.length_cons, List.length_nil, Nat.reduceAdd, Nat.reduceSub, Array.replicate_succ, Array.replicate_zero, List.push_toArray, List.append_toArray, List.nil_append, List.cons_append]
  obtain ⟨A, hA⟩ : ∃ A, Obj.cells #[.bool false, .bool false, .bool false, .bool false, .bool false, .bool false, .bool false, .bool false] 73 = A := ⟨_, rfl⟩
  obtain ⟨R, hR⟩ : ∃ R, Obj.cells #[.bool false] 4 = R := ⟨_, rfl⟩
  have hb3 : Below w.heap.size w (((w.alloc R).alloc A).alloc A) := (((Below.refl _ w).alloc (Nat.le_refl _) _).alloc (by simp) _).alloc (by simp; omega) _
  have hc := HCM.out _ hb3
  have h55 := H55.out _ hb3
  have bR : Boxed (((w.alloc R).alloc A).alloc A) w.heap.size 4 (.bool false) := by
    rw [← hR]; exact ((Boxed.new w 4 (.bool false)).alloc A).alloc A
  have r1 : (((w.alloc R).alloc A).alloc A).rowIs (w.heap.size + 1) 73 8 (fun j => .bool (rowsIn [] j)) := by
    have h0 := (World.rowIs_alloc (w.alloc R) #[.bool false, .bool false, .bool false, .bool false, .bool false, .bool false, .bool false, .bool false] 73 (fun j => .bool (rowsIn [] j)) fun i hi => by
      simp at hi; match i, hi with | 0, _ => rfl | 1, _ => rfl | 2, _ => rfl | 3, _ => rfl | 4, _ => rfl | 5, _ => rfl | 6, _ => rfl | 7, _ => rfl)
    rw [World.size_alloc] at h0
    rw [← hA]; exact h0.alloc _
  have r2 : (((w.alloc R).alloc A).alloc A).rowIs (w.heap.size + 1 + 1) 73 8 (fun j => .bool (colsIn [] j)) := by
    have h0 := (World.rowIs_alloc ((w.alloc R).alloc A) #[.bool false, .bool false, .bool false, .bool false, .bool false, .bool false, .bool false, .bool false] 73 (fun j => .bool (colsIn [] j)) fun i hi => by
      simp at hi; match i, hi with | 0, _ => rfl | 1, _ => rfl | 2, _ => rfl | 3, _ => rfl | 4, _ => rfl | 5, _ => rfl | 6, _ => rfl | 7, _ => rfl)
    simp only [World.size_alloc] at h0
    have h1 := h0
    rw [show (.cells #[.bool false, .bool false, .bool false, .bool false, .bool false, .bool false, .bool false, .bool false] 73 : Obj) = A from hA] at h1
    exact h1
  subst hA hR
  have hsz3 : (((w.alloc (.cells #[.bool false] 4)).alloc (.cells #[.bool false, .bool false, .bool false, .bool false, .bool false, .bool false, .bool false, .bool false] 73)).alloc (.cells #[.bool false, .bool false, .bool false, .bool false, .bool false, .bool false, .bool false, .bool false] 73)).heap.size = w.heap.size + 3 := by simp
  gi_wp2
  try refine ⟨trivial, ?_⟩
  obtain ⟨W3, hW3⟩ : ∃ W3, ((w.alloc (.cells #[.bool false] 4)).alloc (.cells #[.bool false, .bool false, .bool false, .bool false, .bool false, .bool false, .bool false, .bool false] 73)).alloc (.cells #[.bool false, .bool false, .bool false, .bool false, .bool false, .bool false, .bool false, .bool false] 73) = W3 := ⟨_, rfl⟩
  rw [hW3] at hb3 hc h55 bR r1 r2 hsz3 ⊢
  clear hW3 hc
  refine (callsIn_wide.2 h55).mono ?_
  rintro e w1 ⟨rfl, rfl⟩
  clear h55
  gi_wp2
  try refine ⟨trivial, ?_⟩
  refine (all_in _ _ trivial rfl _ _ _ rfl _).mono ?_
  rintro e w2 ⟨rfl, rfl⟩
  gi_wp2
  obtain ⟨X, hX⟩ : ∃ X, Obj.cells #[.int .i64 m.length, .int .i64 (cols m), .slice a m.length ca] 79 = X := ⟨_, rfl⟩
  have bR0 := (bR.alloc X).alloc X
  have r10 := (r1.alloc X).alloc X
  have r20 := (r2.alloc X).alloc X
  have hB0 : Below w.heap.size w ((W3.alloc X).alloc X) := (hb3.alloc (by omega) _).alloc (by simp; omega) _
  have cM : ((W3.alloc X).alloc X).cell? ⟨w.heap.size + 3 + 1, 2, none⟩ = some (.slice a m.length ca) := by
    rw [← hX, ← hsz3]; simp [go_sem]
  have hsz : ((W3.alloc X).alloc X).heap.size = w.heap.size + 5 := by simp; omega
  rw [hX]
  obtain ⟨W0, hW0⟩ : ∃ W0, (W3.alloc X).alloc X = W0 := ⟨_, rfl⟩
  rw [hW0] at bR0 r10 r20 hB0 cM hsz ⊢
  clear hW0 bR r1 r2 hb3
  refine wpIn_rangeFunc_ownH rfl (by omega) (gf := 78) (lb := #[.pointer (some ⟨w.heap.size + 3 + 1, 0, none⟩)]) rfl trivial (enters_of Try.func78 (by kernel_rfl) rfl)
    (all_stopsp Fence.wide _ trivial rfl (by omega) (w.heap.size + 3 + 1) m _ w HMM.out hr HC8.out (FitWt m.length (cols m)) HFIT.out W0 hB0 (by omega) cM) belowK_t (belowK_b (by omega)) (Below.refl _ _) (fun _ => rfl)
    (fun pre W => ((Boxed W w.heap.size 4 (.bool false) ∧ (W.rowIs (w.heap.size + 1) 73 8 (fun j => .bool (rowsIn (pre.map Subtype.val) j)) ∧ W.rowIs (w.heap.size + 1 + 1) 73 8 (fun j => .bool (colsIn (pre.map Subtype.val) j)))) ∧ Below w.heap.size w W) ∧ OkW (pre.map Subtype.val))
    (fun c pre W => (Boxed W w.heap.size 4 (.bool false) ∧ Below w.heap.size w W) ∧ (c = .ret ∧ BadW (pre.map Subtype.val)))
    (OwnFrom.and (OwnFrom.and (OwnFrom.and (Own.from (boxed_own _ _ _) _) (fun s X Y row hs hg hr => ⟨rowIs_own hs.1 hg fun r e => (hr r e).2, rowIs_own hs.2 hg fun r e => (hr r e).2⟩)) (ownFrom_below (Nat.le_refl _) (by omega))) (ownFrom_pure _ _))
    (fun c => OwnFrom.and (OwnFrom.and (Own.from (boxed_own _ _ _) _) (ownFrom_below (Nat.le_refl _) (by omega))) (ownFrom_pure _ _))
    ⟨⟨⟨bR0, r10, r20⟩, hB0⟩, ⟨by simp, by simp⟩⟩
    (fun x a' W => ∃ Bx, w.heap.size + 1 + 1 < Bx ∧ W.rowIs Bx 83 2 (fun j => if j = 0 then .int .i64 x.1.1.1 else .int .i64 x.1.1.2) ∧ a' = { tmps := #[.pointer (some ⟨Bm, 0, none⟩), .pointer (some ⟨w.heap.size, 0, none⟩), .pointer (some ⟨w.heap.size + 1, 0, none⟩), .pointer (some ⟨w.heap.size + 1 + 1, 0, none⟩), .pointer (some ⟨Bx, 0, none⟩), .int .i64 x.1.2, .slice a m.length ca, .agg #[.int .i64 m.length, .int .i64 (cols m), .slice a m.length ca], .func (.func 78) #[] #[.pointer (some ⟨w.heap.size + 3 + 1, 0, none⟩)], .agg #[.int .i64 x.1.1.1, .int .i64 x.1.1.2], .int .i64 x.1.2, undef, undef, undef, undef, undef, undef, undef, undef, undef, undef, undef, undef, undef, undef, undef, undef, undef, undef, undef, undef], defers := [] })
    (fun x a' _ X Y row hs hg hr => by obtain ⟨Bx, h1, h2, h3⟩ := hs; exact ⟨Bx, h1, rowIs_own h2 hg (fun r e => (hr r e).2), h3⟩)
    ?assign ?body ?done ?stop
  case assign =>
    rintro l pre x W K ⟨⟨⟨bR1, r11, r21⟩, hB1⟩, hok⟩ hK
    dsimp only [wtVals]
    gi_wp2
    exact hK _ _ ((KeepsOthers.alloc _ _).from _) ((Below.refl _ W).alloc hB1.size _) ⟨⟨⟨bR1.alloc _, r11.alloc _, r21.alloc _⟩, hB1.alloc hB1.size _⟩, hok⟩ ⟨W.heap.size, r21.lt, rowIs_two W _ _ 83, rfl⟩
  case body =>
    rintro l pre ⟨⟨⟨i, k⟩, wt⟩, hfi⟩ a' W hl ⟨r, hr'⟩ ⟨⟨⟨bR1, r11, r21⟩, hB1⟩, hok⟩ ⟨Bx, hBx, bX, rfl⟩ hlt'
    obtain ⟨hi, hk, hw⟩ := hfi
    simp only at hi hk hw bX
    have cX0 := bX.cell (i := 0) (by omega)
    have cX1 := bX.cell (i := 1) (by omega)
    simp only [if_true, Nat.one_ne_zero, if_false] at cX0 cX1
    have cR := bR1.cell
    have fR := bR1.frozen
    have c1 := r11.cell (i := i) (by omega)
    have c2 := r21.cell (i := k) (by omega)
    have f1 := r11.frozen i
    have f2 := r21.frozen k
    have hi8 : (i : Int) < 8 := by omega
    have hk8 : (k : Int) < 8 := by omega
    have hi8n : i < 8 := by omega
    have hk8n : k < 8 := by omega
    have hbad : (wt ≠ 65536 ∨ rowsIn (pre.map Subtype.val) i = true ∨ colsIn (pre.map Subtype.val) k = true) → BadW ((pre ++ [⟨((i, k), wt), ⟨hi, hk, hw⟩⟩] : List (GoodWt (FitWt m.length (cols m)))).map Subtype.val) := fun h => ⟨pre.map Subtype.val, ((i, k), wt), by simp, h⟩
    have hgood : wt = 65536 → rowsIn (pre.map Subtype.val) i = false → colsIn (pre.map Subtype.val) k = false → OkW ((pre ++ [⟨((i, k), wt), ⟨hi, hk, hw⟩⟩] : List (GoodWt (FitWt m.length (cols m)))).map Subtype.val) := fun h1 h2 h3 => by
      rw [List.map_append]; exact hok.snoc (x := ((i, k), wt)) h1 h2 h3
    have HBAD := Lib.hid hbad
    have HGOOD := Lib.hid hgood
    have HR1 := Lib.hid r11
    have HR2 := Lib.hid r21
    have HBR := Lib.hid bR1
    have HB1 := Lib.hid hB1
    have HRS := Lib.hid (fun j => rowsIn_snoc (pre.map Subtype.val) ((i, k), wt) j)
    have HCS := Lib.hid (fun j => colsIn_snoc (pre.map Subtype.val) ((i, k), wt) j)
    obtain ⟨rb, hrb⟩ : ∃ rb, rowsIn (pre.map Subtype.val) i = rb := ⟨_, rfl⟩
    obtain ⟨kb, hkb⟩ : ∃ kb, colsIn (pre.map Subtype.val) k = kb := ⟨_, rfl⟩
    rw [hrb] at c1
    rw [hkb] at c2
    have HRB := Lib.hid hrb
    have HKB := Lib.hid hkb
    clear hrb hkb hbad hgood r11 r21 bR1 hB1 hok bX hr'
    by_cases hw1 : wt = 65536
    · have e1 : (wt != 65536) = false := by simp [hw1]
      have HW1 := Lib.hid hw1
      clear hw1
      cases rb with
      | true =>
        gi_wp2
        exact ⟨(KeepsOthers.setCell _ _ _).from _, ⟨HBR.out.set _, HB1.out.setCell (Nat.le_refl _) _⟩, rfl, HBAD.out (Or.inr (Or.inl HRB.out))⟩
      | false =>
        cases kb with
        | true =>
          gi_wp2
          exact ⟨(KeepsOthers.setCell _ _ _).from _, ⟨HBR.out.set _, HB1.out.setCell (Nat.le_refl _) _⟩, rfl, HBAD.out (Or.inr (Or.inr HKB.out))⟩
        | false =>
          have hmx : Try.prog.follows .mixedOrders = true := by kernel_rfl
          have HBEL := Lib.hid (show Below w.heap.size W ((W.setCell ⟨w.heap.size + 1, i, none⟩ (.bool true)).setCell ⟨w.heap.size + 1 + 1, k, none⟩ (.bool true)).drew from
            (((Below.refl w.heap.size W).setCell (p := ⟨w.heap.size + 1, i, none⟩) (by simp) _).setCell (p := ⟨w.heap.size + 1 + 1, k, none⟩) (by simp; omega) _).drew)
          have HBEL0 := Lib.hid (show Below w.heap.size w ((W.setCell ⟨w.heap.size + 1, i, none⟩ (.bool true)).setCell ⟨w.heap.size + 1 + 1, k, none⟩ (.bool true)).drew from HB1.out.trans HBEL.out)
          have HBOX := Lib.hid (box_two HBR.out i k)
          have HROW := Lib.hid (show ((W.setCell ⟨w.heap.size + 1, i, none⟩ (.bool true)).setCell ⟨w.heap.size + 1 + 1, k, none⟩ (.bool true)).drew.rowIs (w.heap.size + 1) 73 8 (fun j => .bool (rowsIn ((pre ++ [⟨((i, k), wt), ⟨hi, hk, hw⟩⟩] : List (GoodWt (FitWt m.length (cols m)))).map Subtype.val) j)) from
            ((rowIs_set8 HR1.out (fun j => by rw [List.map_append]; exact HRS.out j)).setOther (by simp) _).drew)
          have HCOL := Lib.hid (show ((W.setCell ⟨w.heap.size + 1, i, none⟩ (.bool true)).setCell ⟨w.heap.size + 1 + 1, k, none⟩ (.bool true)).drew.rowIs (w.heap.size + 1 + 1) 73 8 (fun j => .bool (colsIn ((pre ++ [⟨((i, k), wt), ⟨hi, hk, hw⟩⟩] : List (GoodWt (FitWt m.length (cols m)))).map Subtype.val) j)) from
            (rowIs_set8 (HR2.out.setOther (by simp) _) (fun j => by rw [List.map_append]; exact HCS.out j)).drew)
          gi_wp2
          gi_region_with_o (fail)
          all_goals gi_wp2
          all_goals (try go_bits)
          all_goals exact ⟨(((KeepsOthers.setCell _ _ _).trans (KeepsOthers.setCell _ _ _)).trans (KeepsOthers.drew _)).from _, HBEL.out, ⟨⟨HBOX.out, HROW.out, HCOL.out⟩, HBEL0.out⟩, HGOOD.out HW1.out HRB.out HKB.out⟩
    · have e1 : (wt != 65536) = true := by simp [hw1]
      have HW1 := Lib.hid hw1
      clear hw1
      gi_wp2
      exact ⟨(KeepsOthers.setCell _ _ _).from _, ⟨HBR.out.set _, HB1.out.setCell (Nat.le_refl _) _⟩, rfl, HBAD.out (Or.inl HW1.out)⟩
  case done =>
    rintro D ys W hD hys ⟨⟨⟨bR1, r11, r21⟩, hB1⟩, hok⟩ hK
    have cR := bR1.cell
    have fR := bR1.frozen
    have hPl := plain_of_ok HP3.out (by rw [← hys]; exact hok)
    gi_wp2
    have hne : w.heap.size ≠ D := by omega
    have hK2 : (W.setCell ⟨w.heap.size, 0, none⟩ (.bool true)).heap[D]? = some (.deferred (some [])) := (blk_setCell_other _ _ _ _ (fun e => hne e.symm)).trans hK
    refine ⟨by simp, .inl ⟨_, _, rfl, run_takeDeferred hK2, ?_⟩⟩
    have hBx := (bR1.set (.bool true)).kept (grownBy_putObj' _ D (.deferred none)) (by simp; exact hne)
    refine ⟨_, results_box4 rfl _ _ _ _ rfl hBx.cell, .bool true, rfl, ⟨true, rfl, by simp [hPl]⟩, ?_⟩
    exact (hB1.setCell (p := ⟨w.heap.size, 0, none⟩) (Nat.le_refl _) _).trans (belowK_b (w := w) (Nat.le_refl _) _ D _ _ (by omega) hK2 rfl rfl)
  case stop =>
    rintro D c pre W hD hp ⟨⟨bR1, hB1⟩, rfl, hbad⟩ hK
    have hnp := not_plain_of_bad HP3.out hp hbad
    gi_wp2
    have hne : w.heap.size ≠ D := by omega
    refine ⟨by simp, .inl ⟨_, _, rfl, run_takeDeferred hK, ?_⟩⟩
    have hBx := bR1.kept (grownBy_putObj' _ D (.deferred none)) (by simp; exact hne)
    refine ⟨_, results_box4 rfl _ _ _ _ rfl hBx.cell, .bool false, rfl, ⟨false, rfl, by simp [hnp]⟩, ?_⟩
    exact hB1.trans (belowK_b (w := w) (Nat.le_refl _) _ D _ _ (by omega) hK rfl rfl)
end Go.Proofs.Ytpjmiiejmkgmdaa
