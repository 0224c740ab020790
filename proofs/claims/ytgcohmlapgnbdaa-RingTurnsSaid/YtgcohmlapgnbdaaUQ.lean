/- The reference's Put. -/
import Derived.Test.YtgcohmlapgnbdaaUP
namespace Go.Proofs.Ytgcohmlapgnbdaa
open Go.RowKit Go.Shelf Go.Deep
variable (sz ch fi W R S L c t : Int)

/-- The ten cells of a ring in a block. -/
structure RgAt (b : Nat) (m : Value) (w : World) : Prop where
  row : w.rowIs b 31 10 (rgF sz ch fi W R S L c t m)
theorem RgAt.of_cells {b : Nat} {m : Value} {w : World} (h : w.heap[b]? = some (.cells (rgC sz ch fi W R S L c t m) 31 (0, 0))) : w.rowIs b 31 10 (rgF sz ch fi W R S L c t m) := by
  refine ⟨_, h, rfl, fun i hi => ?_⟩
  match i with
  | 0 => rfl
  | 1 => rfl
  | 2 => rfl
  | 3 => rfl
  | 4 => rfl
  | 5 => rfl
  | 6 => rfl
  | 7 => rfl
  | 8 => rfl
  | 9 => rfl
theorem rg_cells {b : Nat} {m : Value} {w : World} (h : w.rowIs b 31 10 (rgF sz ch fi W R S L c t m)) : w.cell? ⟨b, 0, none⟩ = some (.int .i64 sz) ∧ w.cell? ⟨b, 1, none⟩ = some (.int .i64 ch) ∧ w.cell? ⟨b, 2, none⟩ = some (.int .i64 fi) ∧ w.cell? ⟨b, 3, none⟩ = some (.int .i64 W) ∧ w.cell? ⟨b, 4, none⟩ = some (.int .i64 R) ∧ w.cell? ⟨b, 5, none⟩ = some (.int .i64 S) ∧ w.cell? ⟨b, 6, none⟩ = some (.int .i64 L) ∧ w.cell? ⟨b, 7, none⟩ = some (.int .i64 c) ∧ w.cell? ⟨b, 8, none⟩ = some (.int .i64 t) ∧ w.cell? ⟨b, 9, none⟩ = some (m) :=
  ⟨h.cell (i := 0) (by decide), h.cell (i := 1) (by decide), h.cell (i := 2) (by decide), h.cell (i := 3) (by decide), h.cell (i := 4) (by decide), h.cell (i := 5) (by decide), h.cell (i := 6) (by decide), h.cell (i := 7) (by decide), h.cell (i := 8) (by decide), h.cell (i := 9) (by decide)⟩
theorem rg_frozen {b : Nat} {F : Nat → Value} {w : World} (h : w.rowIs b 31 10 F) : w.frozen? ⟨b, 0, none⟩ = false ∧ w.frozen? ⟨b, 1, none⟩ = false ∧ w.frozen? ⟨b, 2, none⟩ = false ∧ w.frozen? ⟨b, 3, none⟩ = false ∧ w.frozen? ⟨b, 4, none⟩ = false ∧ w.frozen? ⟨b, 5, none⟩ = false ∧ w.frozen? ⟨b, 6, none⟩ = false ∧ w.frozen? ⟨b, 7, none⟩ = false ∧ w.frozen? ⟨b, 8, none⟩ = false ∧ w.frozen? ⟨b, 9, none⟩ = false :=
  ⟨h.frozen 0, h.frozen 1, h.frozen 2, h.frozen 3, h.frozen 4, h.frozen 5, h.frozen 6, h.frozen 7, h.frozen 8, h.frozen 9⟩
theorem getD_set_eq {α : Type} {l : List α} {x d : α} {p : Nat} (h : p < l.length) : (l.set p x).getD p d = x := by simp [List.getD, h]
theorem getD_set_ne {α : Type} {l : List α} {x d : α} {p j : Nat} (h : p ≠ j) : (l.set p x).getD j d = l.getD j d := by simp [List.getD, List.getElem?_set, h]
theorem Rk.put {B : Nat} {X : World} {rows : List (List Int)} {vals : List Value} {g cap : Nat} (h : Rk B X rows.length rows vals (.slice (some ⟨g, 0, none⟩) rows.length cap)) {p : Nat} (hp : p < rows.length) {u : Value} {f : List Int} (hu : X.ownsRow B 3 1 u f.length (f.map (Value.int .i64))) (hf : okRow f) :
    Rk B (X.setCell ⟨g, p, none⟩ u) rows.length (rows.set p f) (vals.set p u) (.slice (some ⟨g, 0, none⟩) rows.length cap) := by
  obtain ⟨h1, h2⟩ := h.all.stored p u
  have keep : ∀ {r : List Int} {v : Value}, X.ownsRow B 3 1 v r.length (r.map (Value.int .i64)) → (X.setCell ⟨g, p, none⟩ u).ownsRow B 3 1 v r.length (r.map (Value.int .i64)) := fun hh => owns_keep hh fun q hq => h2.block q (hh.lt q hq).2 fun e => owns_diff hh h.all (by decide) q hq (by cases e; rfl)
  refine ⟨by simp [h.len], by rw [List.take_of_length_le (by simp [h.len])]; exact h1, fun j hj => ?_, fun j hj => ?_⟩
  · rw [List.length_set] at hj
    by_cases e : p = j
    · subst e
      rw [getD_set_eq (by rw [h.len]; exact hp), getD_set_eq hp]
      exact ⟨keep hu, fun q hq e => owns_diff (keep hu) h1 (by decide) q hq e⟩
    · rw [getD_set_ne e, getD_set_ne e]
      have := keep (h.row j hj).1
      exact ⟨this, fun q hq e => owns_diff this h1 (by decide) q hq e⟩
  · rw [List.length_set] at hj
    by_cases e : p = j
    · subst e; rw [getD_set_eq hp]; exact hf
    · rw [getD_set_ne e]; exact h.ok j hj
theorem frm_okRow {x : World} {f : List Int} {v : Value} (h : RowIn x f v) : okRow f := by
  obtain ⟨_, _, _, hin, h1, _⟩ := h
  exact ⟨h1, fun i hi => by obtain ⟨_, _, _, _, h3⟩ := hin i hi; exact h3⟩
theorem _root_.Go.Proofs.Ytgcohmlapgnbdaa.MatNew.base {B B' : Nat} {W : World} {m : List (List Int)} {v : Value} (h : MatNew B W m v) (hb : B' ≤ B) : MatNew B' W m v := fun y hy => h y fun k h1 h2 => hy k (Nat.le_trans hb h1) h2
def PutAns (m : List (List Int)) (w : World) (e : Ending) (w' : World) : Prop := ∃ up uc, e = .returned (.tuple #[rgV sz ch fi W R S L c t (.slice up m.length uc), .int .i64 0]) ∧ MatNew w.heap.size w' m (.slice up m.length uc) ∧ Below w.heap.size w w'
set_option maxHeartbeats 8000000 in
set_option maxRecDepth 100000 in
theorem refPut_any (n : Int) (p : Nat) (ma : Option Addr) (mc : Nat) (m : List (List Int)) (f : List Int) (fa : Option Addr) (fc : Nat) (w : World) (hn : 0 ≤ n) (hc : n < c) (hz : 1 ≤ sz ∧ sz ≤ 1024) (hf : Sm fi) (hf0 : 0 ≤ fi) (hW : Sm W) (hW0 : 0 ≤ W) (hWn : W + n ≤ 200000) (hp : (p : Int) = (fi + (W + n)) % sz) (hpl : p < m.length) (hml : m.length ≤ 1024)
    (hm : MatIn w m (.slice ma m.length mc)) (hv : RowIn w f (.slice fa f.length fc)) (hfr : frm ch f = true) :
    Calls Try.prog 63 #[rgV sz ch fi W R S L c t (.slice ma m.length mc), .int .i64 n, .slice fa f.length fc] w (PutAns sz ch fi W R S L c t (m.set p f) w) := by
  have HP := Lib.hid fun (a : Option Addr) (k1 k2 : Nat) x => refPlace_any sz ch fi W R S L c t a k1 k2 x (W + n) hz hf (by omega) hf0
  rw [← hp] at HP
  obtain ⟨a1, b1⟩ := hW
  have e1 : IntKind.i64.wrap (W + n) = W + n := by rw [IntKind.wrap_i64]; omega
  have x1 : ¬ n < 0 := by omega
  have x2 : ¬ c < 0 := by omega
  have x3 : ¬ c ≤ n := by omega
  have x5 : (0 : Int) ≤ (p : Int) := by omega
  have x6 : (p : Int) < (m.length : Int) := by omega
  have HPL := Lib.hid (And.intro hpl hml)
  have HM := Lib.hid hm
  have HV := Lib.hid hv
  have HFR := Lib.hid fun x (hx : Below w.heap.size w x) => refFrame_any sz ch fi W R S L c t ma m.length mc f (.slice fa f.length fc) x (hv.mono (Same.of_below hx))
  rw [hfr] at HFR
  have HCP := Lib.hid fun x (hx : Below w.heap.size w x) => refCopied_any sz ch fi W R S L c t ma mc m x (hm.mono (Same.of_below hx)) hml
  obtain ⟨O1, hO1⟩ : ∃ O1, Obj.cells (rgC sz ch fi W R S L c t (.slice ma m.length mc)) 31 = O1 := ⟨_, rfl⟩
  obtain ⟨O2, hO2⟩ : ∃ O2, Obj.cells (rgC 0 0 0 0 0 0 0 0 0 (.slice none 0 0)) 31 = O2 := ⟨_, rfl⟩
  have hb1 : Below w.heap.size w ((w.alloc O1).alloc O2) := ((Below.refl _ w).alloc (Nat.le_refl _) _).alloc (by simp) _
  have hsz : ((w.alloc O1).alloc O2).heap.size = w.heap.size + 1 + 1 := by simp
  have q1 : ((w.alloc O1).alloc O2).rowIs w.heap.size 31 10 (rgF sz ch fi W R S L c t (.slice ma m.length mc)) := RgAt.of_cells _ _ _ _ _ _ _ _ _ (by rw [hO1]; exact (blk_alloc_lt _ _ _ (by simp)).trans (blk_alloc_new w O1))
  have q2 : ((w.alloc O1).alloc O2).rowIs (w.heap.size + 1) 31 10 (rgF 0 0 0 0 0 0 0 0 0 (.slice none 0 0)) := RgAt.of_cells _ _ _ _ _ _ _ _ _ (by rw [hO2]; exact al2b w O1 O2)
  obtain ⟨Z, hZ⟩ : ∃ Z, (w.alloc O1).alloc O2 = Z := ⟨_, rfl⟩
  rw [hZ] at hb1 hsz q1 q2
  have HB1 := Lib.hid hb1
  have HSZ := Lib.hid hsz
  have HQ1 : Hid (∀ y, Below Z.heap.size Z y → y.rowIs w.heap.size 31 10 (rgF sz ch fi W R S L c t (.slice ma m.length mc))) := Lib.hid fun y hy => q1.of_block (hy.block _ (by omega))
  have HQ2 : Hid (∀ y, Below Z.heap.size Z y → y.rowIs (w.heap.size + 1) 31 10 (rgF 0 0 0 0 0 0 0 0 0 (.slice none 0 0))) := Lib.hid fun y hy => q2.of_block (hy.block _ (by omega))
  clear hp hm hv hfr hpl hml hn hc hz hf hf0 hW0 hWn hb1 hsz q2
  subst hO1
  subst hO2
  obtain ⟨k0, k1, k2, k3, k4, k5, k6, k7, k8, k9⟩ := rg_cells _ _ _ _ _ _ _ _ _ q1
  clear q1
  go_enter Try.func63, Try.ntmps63
  go_upto_region 10 with (first
    | (go_at_call 82; (with_reducible refine (HFR.out Z HB1.out).mono ?_); rintro e w1 ⟨rfl, b1⟩; have HW1 := Lib.hid (Below.then HB1.out (Nat.le_refl _) b1); have HZ1 := Lib.hid b1; clear k0 k1 k2 k3 k4 k5 k6 k7 k8 k9; obtain ⟨k0, k1, k2, k3, k4, k5, k6, k7, k8, k9⟩ := rg_cells _ _ _ _ _ _ _ _ _ (HQ1.out _ b1); clear b1)
    | (go_at_call 101; (with_reducible refine (HCP.out w1 HW1.out).mono ?_); rintro e w2 ⟨up, uc, vals, rfl, hrk, b2⟩; have HRK := Lib.hid hrk; have HZ2 := Lib.hid (Below.then HZ1.out (Nat.le_refl _) b2); have HB2 := Lib.hid b2; clear hrk b2 k0 k1 k2 k3 k4 k5 k6 k7 k8 k9; obtain ⟨k0, k1, k2, k3, k4, k5, k6, k7, k8, k9⟩ := rg_cells _ _ _ _ _ _ _ _ _ (HQ1.out _ HZ2.out); obtain ⟨f0, f1, f2, f3, f4, f5, f6, f7, f8, f9⟩ := rg_frozen (HQ1.out _ HZ2.out)))
  clear k0 k1 k2 k3 k4 k5 k6 k7 k8 k9 f0 f1 f2 f3 f4 f5 f6 f7 f8 f9
  obtain ⟨hY, hg⟩ := set10 (HQ1.out _ HZ2.out) sz ch fi W R S L c t up m.length uc
  have hrow1 := RgAt.of_cells _ _ _ _ _ _ _ _ _ hY
  have hrow2 := (HQ2.out _ HZ2.out).of_block (hg.block _ (HQ2.out _ HZ2.out).lt (fun e => by simp at e))
  have hw1 : w.heap.size + 2 ≤ w1.heap.size := by have := HZ1.out.size; have := HSZ.out; omega
  have hw2 : w1.heap.size ≤ w2.heap.size := HB2.out.size
  have hrkY := HRK.out.keep (fun q h1 _ => hg.block q (by assumption) (fun e => by cases e; omega))
  have hbY : Below w.heap.size w ((((((((((w2.setCell ⟨w.heap.size, 0, none⟩ (.int .i64 sz)).setCell ⟨w.heap.size, 1, none⟩ (.int .i64 ch)).setCell ⟨w.heap.size, 2, none⟩ (.int .i64 fi)).setCell ⟨w.heap.size, 3, none⟩ (.int .i64 W)).setCell ⟨w.heap.size, 4, none⟩ (.int .i64 R)).setCell ⟨w.heap.size, 5, none⟩ (.int .i64 S)).setCell ⟨w.heap.size, 6, none⟩ (.int .i64 L)).setCell ⟨w.heap.size, 7, none⟩ (.int .i64 c)).setCell ⟨w.heap.size, 8, none⟩ (.int .i64 t)).setCell ⟨w.heap.size, 9, none⟩ (.slice up m.length uc)) := (HB1.out.trans (HZ2.out.mono (by rw [HSZ.out]; omega))).grown hg (by have := HB1.out.size; have := HZ2.out.size; omega) (fun k e => by cases e; omega)
  have hsY : w1.heap.size ≤ ((((((((((w2.setCell ⟨w.heap.size, 0, none⟩ (.int .i64 sz)).setCell ⟨w.heap.size, 1, none⟩ (.int .i64 ch)).setCell ⟨w.heap.size, 2, none⟩ (.int .i64 fi)).setCell ⟨w.heap.size, 3, none⟩ (.int .i64 W)).setCell ⟨w.heap.size, 4, none⟩ (.int .i64 R)).setCell ⟨w.heap.size, 5, none⟩ (.int .i64 S)).setCell ⟨w.heap.size, 6, none⟩ (.int .i64 L)).setCell ⟨w.heap.size, 7, none⟩ (.int .i64 c)).setCell ⟨w.heap.size, 8, none⟩ (.int .i64 t)).setCell ⟨w.heap.size, 9, none⟩ (.slice up m.length uc)).heap.size := Nat.le_trans hw2 hg.size
  clear hY hg
  generalize ((((((((((w2.setCell ⟨w.heap.size, 0, none⟩ (.int .i64 sz)).setCell ⟨w.heap.size, 1, none⟩ (.int .i64 ch)).setCell ⟨w.heap.size, 2, none⟩ (.int .i64 fi)).setCell ⟨w.heap.size, 3, none⟩ (.int .i64 W)).setCell ⟨w.heap.size, 4, none⟩ (.int .i64 R)).setCell ⟨w.heap.size, 5, none⟩ (.int .i64 S)).setCell ⟨w.heap.size, 6, none⟩ (.int .i64 L)).setCell ⟨w.heap.size, 7, none⟩ (.int .i64 c)).setCell ⟨w.heap.size, 8, none⟩ (.int .i64 t)).setCell ⟨w.heap.size, 9, none⟩ (.slice up m.length uc)) = Y at *
  obtain ⟨g, rfl⟩ : ∃ g, up = some ⟨g, 0, none⟩ := by
    rcases hrkY.all.2 with ⟨_, h1⟩ | ⟨q, cap, cur, h1, _⟩
    · have := HPL.out.1; omega
    · cases h1; exact ⟨q, rfl⟩
  have hgw : w1.heap.size ≤ g := (hrkY.all.lt g rfl).1
  have HX : Hid (∀ y, Below Y.heap.size Y y → y.cell? ⟨w.heap.size, 0, none⟩ = some (.int .i64 sz) ∧ y.cell? ⟨w.heap.size, 1, none⟩ = some (.int .i64 ch) ∧ y.cell? ⟨w.heap.size, 2, none⟩ = some (.int .i64 fi) ∧ y.cell? ⟨w.heap.size, 3, none⟩ = some (.int .i64 W) ∧ y.cell? ⟨w.heap.size, 4, none⟩ = some (.int .i64 R) ∧ y.cell? ⟨w.heap.size, 5, none⟩ = some (.int .i64 S) ∧ y.cell? ⟨w.heap.size, 6, none⟩ = some (.int .i64 L) ∧ y.cell? ⟨w.heap.size, 7, none⟩ = some (.int .i64 c) ∧ y.cell? ⟨w.heap.size, 8, none⟩ = some (.int .i64 t) ∧ y.cell? ⟨w.heap.size, 9, none⟩ = some (.slice (some ⟨g, 0, none⟩) m.length uc)) := Lib.hid fun y hy => rg_cells _ _ _ _ _ _ _ _ _ (hrow1.of_block (hy.block _ hrow1.lt))
  have HR1 := Lib.hid hrow1
  have HR2 := Lib.hid hrow2
  have HRY := Lib.hid hrkY
  have HBY := Lib.hid hbY
  have HSY := Lib.hid (And.intro (And.intro hw1 hsY) hgw)
  clear hrow1 hrow2 hrkY hbY hsY hgw hw1 hw2
  refine region_T (S := fun wx => wx.cell? ⟨w.heap.size, 0, none⟩ = some (.int .i64 sz) ∧ wx.cell? ⟨w.heap.size, 1, none⟩ = some (.int .i64 ch) ∧ wx.cell? ⟨w.heap.size, 2, none⟩ = some (.int .i64 fi) ∧ wx.cell? ⟨w.heap.size, 3, none⟩ = some (.int .i64 W) ∧ wx.cell? ⟨w.heap.size, 4, none⟩ = some (.int .i64 R) ∧ wx.cell? ⟨w.heap.size, 5, none⟩ = some (.int .i64 S) ∧ wx.cell? ⟨w.heap.size, 6, none⟩ = some (.int .i64 L) ∧ wx.cell? ⟨w.heap.size, 7, none⟩ = some (.int .i64 c) ∧ wx.cell? ⟨w.heap.size, 8, none⟩ = some (.int .i64 t) ∧ wx.cell? ⟨w.heap.size, 9, none⟩ = some (.slice (some ⟨g, 0, none⟩) m.length uc)) [12] (by kernel_rfl) (HX.out _ (below_drew (Below.refl _ Y))) (fun _ => ?_)
  have hS0 := HX.out _ (below_drew (Below.refl _ Y))
  have HBZ : Hid (Below Y.heap.size Y Y.drew) := Lib.hid (below_drew (Below.refl _ Y))
  generalize Y.drew = X at *
  refine anyT_take (i := 0) (v := ?_) rfl (by kernel_rfl) (by kernel_rfl) (by kernel_rfl) (by kernel_rfl) (fun _ _ _ h => h) (Or.inl ⟨by rfl, ?_⟩) (by assumption) ?_
  rotate_left
  focus ((intro wq hSw; (try dsimp only at hSw); go_simp); try with_reducible rfl)
  try simp only [Act.put, List.getElem_toArray, List.getElem_cons_succ, List.getElem_cons_zero, List.setIfInBounds_toArray, List.set_cons_zero, List.set_cons_succ]
  refine anyT_take (i := 1) (v := ?_) rfl (by kernel_rfl) (by kernel_rfl) (by kernel_rfl) (by kernel_rfl) (fun _ _ _ h => h) (Or.inl ⟨by rfl, ?_⟩) (by assumption) ?_
  rotate_left
  focus ((intro wq hSw; (try dsimp only at hSw); go_simp); try with_reducible rfl)
  try simp only [Act.put, List.getElem_toArray, List.getElem_cons_succ, List.getElem_cons_zero, List.setIfInBounds_toArray, List.set_cons_zero, List.set_cons_succ]
  refine anyT_take (i := 2) (v := ?_) rfl (by kernel_rfl) (by kernel_rfl) (by kernel_rfl) (by kernel_rfl) (fun _ _ _ h => h) (Or.inl ⟨by rfl, ?_⟩) (by assumption) ?_
  rotate_left
  focus ((intro wq hSw; (try dsimp only at hSw); go_simp); try with_reducible rfl)
  try simp only [Act.put, List.getElem_toArray, List.getElem_cons_succ, List.getElem_cons_zero, List.setIfInBounds_toArray, List.set_cons_zero, List.set_cons_succ]
  refine anyT_take (i := 3) (v := ?_) rfl (by kernel_rfl) (by kernel_rfl) (by kernel_rfl) (by kernel_rfl) (fun _ _ _ h => h) (Or.inl ⟨by rfl, ?_⟩) (by assumption) ?_
  rotate_left
  focus ((intro wq hSw; (try dsimp only at hSw); go_simp); try with_reducible rfl)
  try simp only [Act.put, List.getElem_toArray, List.getElem_cons_succ, List.getElem_cons_zero, List.setIfInBounds_toArray, List.set_cons_zero, List.set_cons_succ]
  refine anyT_take (i := 4) (v := ?_) rfl (by kernel_rfl) (by kernel_rfl) (by kernel_rfl) (by kernel_rfl) (fun _ _ _ h => h) (Or.inl ⟨by rfl, ?_⟩) (by assumption) ?_
  rotate_left
  focus ((intro wq hSw; (try dsimp only at hSw); go_simp); try with_reducible rfl)
  try simp only [Act.put, List.getElem_toArray, List.getElem_cons_succ, List.getElem_cons_zero, List.setIfInBounds_toArray, List.set_cons_zero, List.set_cons_succ]
  refine anyT_take (i := 5) (v := ?_) rfl (by kernel_rfl) (by kernel_rfl) (by kernel_rfl) (by kernel_rfl) (fun _ _ _ h => h) (Or.inl ⟨by rfl, ?_⟩) (by assumption) ?_
  rotate_left
  focus ((intro wq hSw; (try dsimp only at hSw); go_simp); try with_reducible rfl)
  try simp only [Act.put, List.getElem_toArray, List.getElem_cons_succ, List.getElem_cons_zero, List.setIfInBounds_toArray, List.set_cons_zero, List.set_cons_succ]
  refine anyT_take (i := 6) (v := ?_) rfl (by kernel_rfl) (by kernel_rfl) (by kernel_rfl) (by kernel_rfl) (fun _ _ _ h => h) (Or.inl ⟨by rfl, ?_⟩) (by assumption) ?_
  rotate_left
  focus ((intro wq hSw; (try dsimp only at hSw); go_simp); try with_reducible rfl)
  try simp only [Act.put, List.getElem_toArray, List.getElem_cons_succ, List.getElem_cons_zero, List.setIfInBounds_toArray, List.set_cons_zero, List.set_cons_succ]
  refine anyT_take (i := 9) (v := ?_) rfl (by kernel_rfl) (by kernel_rfl) (by kernel_rfl) (by kernel_rfl) (fun _ _ _ h => h) (Or.inl ⟨by rfl, ?_⟩) (by assumption) ?_
  rotate_left
  focus ((intro wq hSw; (try dsimp only at hSw); go_simp); try with_reducible rfl)
  try simp only [Act.put, List.getElem_toArray, List.getElem_cons_succ, List.getElem_cons_zero, List.setIfInBounds_toArray, List.set_cons_zero, List.set_cons_succ]
  refine anyT_two (i := 7) (j := 8) (by kernel_rfl) rfl rfl (fun K hK => ?_) (fun K hK => ?_)
  · skip
    go_simp
    refine (HP.out _ _ _ _).mono ?_
    rintro e x7 ⟨rfl, bx7⟩
    go_simp
    have Hb1' := Lib.hid bx7
    have Hx7 := Lib.hid (Below.then HBZ.out (Nat.le_refl _) bx7)
    clear bx7
    have hSx7 := HX.out _ Hx7.out
    refine hK.out _ _ (fun _ => hSx7) ?_
    clear hK K
    try simp only [Act.put, List.getElem_toArray, List.getElem_cons_succ, List.getElem_cons_zero, List.setIfInBounds_toArray, List.set_cons_zero, List.set_cons_succ]
    refine anyT_one (i := 8) (by kernel_rfl) rfl (fun K hK => ?_)
    go_simp
    have HA : Hid (Below Y.heap.size Y (x7.alloc (.cells #[] 3))) := Lib.hid (Below.then Hx7.out (Nat.le_refl _) ((Below.refl _ _).alloc (Nat.le_refl _) _))
    have HAO : Hid ((x7.alloc (.cells #[] 3)).ownsRow Y.heap.size 3 1 (.slice (some ⟨x7.heap.size, 0, none⟩) 0 0) 0 (([] : List Int).map (Value.int .i64))) := Lib.hid (owns_base (World.ownsRow_made x7 #[] 0 (Nat.le_refl _) (by simp) (by simp)) Hx7.out.size)
    have hSA := HX.out _ HA.out
    refine hK.out _ _ (fun _ => hSA) ?_
    clear hK K
    try simp only [Act.put, List.getElem_toArray, List.getElem_cons_succ, List.getElem_cons_zero, List.setIfInBounds_toArray, List.set_cons_zero, List.set_cons_succ]
    refine anyT_one (i := 10) (by kernel_rfl) rfl (fun K hK => ?_)
    refine op_append_ints rfl (.tmp 39) (.tmp 40) rfl Y.heap.size _ 0 [] rfl HAO.out fa f.length fc rfl f rfl (src_of (HV.out.mono (Same.of_below (HBY.out.trans (HA.out.mono HBY.out.size)))) rfl) (by obtain ⟨_, _, _, _, h1, _⟩ := HV.out; omega) HA.out.size ?_
    intro v2 w5 o2 g2 m2
    have HF : Hid (Below Y.heap.size Y w5) := Lib.hid (HA.out.grown g2 HA.out.size (fun k e => (HAO.out.lt k e).1))
    rw [Nat.zero_add, List.nil_append] at o2
    obtain ⟨va, vc, rfl⟩ := slice_owns o2
    have HO2 := Lib.hid o2
    clear o2 g2 m2
    have hSF := HX.out _ HF.out
    refine hK.out _ _ (fun _ => hSF) ?_
    clear hK K
    try simp only [Act.put, List.getElem_toArray, List.getElem_cons_succ, List.getElem_cons_zero, List.setIfInBounds_toArray, List.set_cons_zero, List.set_cons_succ]
    refine anyT_one (i := 11) (by kernel_rfl) rfl (fun K hK => ?_)
    go_simp
    refine hK.out _ _ (fun _ => hSF) ?_
    clear hK K
    try simp only [Act.put, List.getElem_toArray, List.getElem_cons_succ, List.getElem_cons_zero, List.setIfInBounds_toArray, List.set_cons_zero, List.set_cons_succ]
    have hrk5 := HRY.out.keep (fun q _ h2 => HF.out.block q h2)
    have q5 : w5.cell? ⟨g, p, none⟩ = some (vals.getD p undef) := by have h := hrk5.all.cells (g := g) rfl p (vals.getD p undef) (by simp [List.getD, show p < vals.length by rw [hrk5.len]; exact HPL.out.1]); rw [add_at, Nat.zero_add] at h; exact h
    have z5 := hrk5.all.frozenAt p
    refine anyT_one (i := 12) (by kernel_rfl) rfl (fun K hK => ?_)
    go_simp
    refine hK.out _ _ (fun h => by cases h) ?_
    clear hK K
    try simp only [Act.put, List.getElem_toArray, List.getElem_cons_succ, List.getElem_cons_zero, List.setIfInBounds_toArray, List.set_cons_zero, List.set_cons_succ]
    have HRP := Lib.hid (hrk5.put HPL.out.1 (owns_base HO2.out HSY.out.1.2) (frm_okRow HV.out))
    have hne : w.heap.size ≠ g := by have := HSY.out; omega
    have hne2 : w.heap.size + 1 ≠ g := by have := HSY.out; omega
    have hr1 := (HR1.out.of_block (HF.out.block _ HR1.out.lt)).setOther (a := ⟨g, p, none⟩) hne (.slice va f.length vc)
    have hr2 := (HR2.out.of_block (HF.out.block _ HR2.out.lt)).setOther (a := ⟨g, p, none⟩) hne2 (.slice va f.length vc)
    have HBF : Hid (Below w.heap.size w (w5.setCell ⟨g, p, none⟩ (.slice va f.length vc))) := Lib.hid (low_set (HBY.out.trans (HF.out.mono HBY.out.size)) (by have := HSY.out; omega))
    have HS5 := Lib.hid (show w1.heap.size ≤ (w5.setCell ⟨g, p, none⟩ (.slice va f.length vc)).heap.size by have := HSY.out; have := HF.out.size; simp; omega)
    clear hrk5 q5 z5 hSF
    generalize w5.setCell ⟨g, p, none⟩ (.slice va f.length vc) = W5 at *
    refine anyT_done (by kernel_rfl) ?_ _
    obtain ⟨k0, k1, k2, k3, k4, k5, k6, k7, k8, k9⟩ := rg_cells _ _ _ _ _ _ _ _ _ hr1
    obtain ⟨n0, n1, n2, n3, n4, n5, n6, n7, n8, n9⟩ := rg_cells _ _ _ _ _ _ _ _ _ hr2
    obtain ⟨f0, f1, f2, f3, f4, f5, f6, f7, f8, f9⟩ := rg_frozen hr2
    obtain ⟨hY6, hg6⟩ := set10 hr2 sz ch fi W R S L c t (some ⟨g, 0, none⟩) m.length uc
    have HY6 := Lib.hid (And.intro hY6 hg6)
    clear hY6 hg6 hr1 hr2
    go_wp2_with fail
    refine bodyPost_ret (results_cell_tmp_row rfl _ _ (w.heap.size + 1) (rgC sz ch fi W R S L c t (.slice (some ⟨g, 0, none⟩) m.length uc)) rfl HY6.out.1 rfl) rfl ?_
    have hfin := (Rk.mat (by rw [List.length_set]; exact HRP.out.keep fun q h1 h2 => HY6.out.2.block q h2 (fun e => by cases e; have := HSY.out; omega)) (by rw [List.length_set]; have := HPL.out.2; omega)).base (show w.heap.size ≤ w1.heap.size by have := HSY.out; omega)
    exact ⟨_, _, by rw [List.length_set]; rfl, by rw [List.length_set]; exact hfin, HBF.out.grown HY6.out.2 HBF.out.size (fun k e => by cases e; omega)⟩
  · skip
    go_simp
    have HA : Hid (Below Y.heap.size Y (X.alloc (.cells #[] 3))) := Lib.hid (Below.then HBZ.out (Nat.le_refl _) ((Below.refl _ _).alloc (Nat.le_refl _) _))
    have HAO : Hid ((X.alloc (.cells #[] 3)).ownsRow Y.heap.size 3 1 (.slice (some ⟨X.heap.size, 0, none⟩) 0 0) 0 (([] : List Int).map (Value.int .i64))) := Lib.hid (owns_base (World.ownsRow_made X #[] 0 (Nat.le_refl _) (by simp) (by simp)) HBZ.out.size)
    have hSA := HX.out _ HA.out
    refine hK.out _ _ (fun _ => hSA) ?_
    clear hK K
    try simp only [Act.put, List.getElem_toArray, List.getElem_cons_succ, List.getElem_cons_zero, List.setIfInBounds_toArray, List.set_cons_zero, List.set_cons_succ]
    refine anyT_one (i := 7) (by kernel_rfl) rfl (fun K hK => ?_)
    go_simp
    refine (HP.out _ _ _ _).mono ?_
    rintro e x7 ⟨rfl, bx7⟩
    go_simp
    have Hb1' := Lib.hid bx7
    have Hx7 := Lib.hid (Below.then HA.out (Nat.le_refl _) bx7)
    clear bx7
    have hSx7 := HX.out _ Hx7.out
    refine hK.out _ _ (fun _ => hSx7) ?_
    clear hK K
    try simp only [Act.put, List.getElem_toArray, List.getElem_cons_succ, List.getElem_cons_zero, List.setIfInBounds_toArray, List.set_cons_zero, List.set_cons_succ]
    have HAO1 := Lib.hid (owns_below HAO.out Hb1'.out)
    refine anyT_one (i := 10) (by kernel_rfl) rfl (fun K hK => ?_)
    refine op_append_ints rfl (.tmp 39) (.tmp 40) rfl Y.heap.size _ 0 [] rfl HAO1.out fa f.length fc rfl f rfl (src_of (HV.out.mono (Same.of_below (HBY.out.trans (Hx7.out.mono HBY.out.size)))) rfl) (by obtain ⟨_, _, _, _, h1, _⟩ := HV.out; omega) Hx7.out.size ?_
    intro v2 w5 o2 g2 m2
    have HF : Hid (Below Y.heap.size Y w5) := Lib.hid (Hx7.out.grown g2 Hx7.out.size (fun k e => (HAO1.out.lt k e).1))
    rw [Nat.zero_add, List.nil_append] at o2
    obtain ⟨va, vc, rfl⟩ := slice_owns o2
    have HO2 := Lib.hid o2
    clear o2 g2 m2
    have hSF := HX.out _ HF.out
    refine hK.out _ _ (fun _ => hSF) ?_
    clear hK K
    try simp only [Act.put, List.getElem_toArray, List.getElem_cons_succ, List.getElem_cons_zero, List.setIfInBounds_toArray, List.set_cons_zero, List.set_cons_succ]
    refine anyT_one (i := 11) (by kernel_rfl) rfl (fun K hK => ?_)
    go_simp
    refine hK.out _ _ (fun _ => hSF) ?_
    clear hK K
    try simp only [Act.put, List.getElem_toArray, List.getElem_cons_succ, List.getElem_cons_zero, List.setIfInBounds_toArray, List.set_cons_zero, List.set_cons_succ]
    have hrk5 := HRY.out.keep (fun q _ h2 => HF.out.block q h2)
    have q5 : w5.cell? ⟨g, p, none⟩ = some (vals.getD p undef) := by have h := hrk5.all.cells (g := g) rfl p (vals.getD p undef) (by simp [List.getD, show p < vals.length by rw [hrk5.len]; exact HPL.out.1]); rw [add_at, Nat.zero_add] at h; exact h
    have z5 := hrk5.all.frozenAt p
    refine anyT_one (i := 12) (by kernel_rfl) rfl (fun K hK => ?_)
    go_simp
    refine hK.out _ _ (fun h => by cases h) ?_
    clear hK K
    try simp only [Act.put, List.getElem_toArray, List.getElem_cons_succ, List.getElem_cons_zero, List.setIfInBounds_toArray, List.set_cons_zero, List.set_cons_succ]
    have HRP := Lib.hid (hrk5.put HPL.out.1 (owns_base HO2.out HSY.out.1.2) (frm_okRow HV.out))
    have hne : w.heap.size ≠ g := by have := HSY.out; omega
    have hne2 : w.heap.size + 1 ≠ g := by have := HSY.out; omega
    have hr1 := (HR1.out.of_block (HF.out.block _ HR1.out.lt)).setOther (a := ⟨g, p, none⟩) hne (.slice va f.length vc)
    have hr2 := (HR2.out.of_block (HF.out.block _ HR2.out.lt)).setOther (a := ⟨g, p, none⟩) hne2 (.slice va f.length vc)
    have HBF : Hid (Below w.heap.size w (w5.setCell ⟨g, p, none⟩ (.slice va f.length vc))) := Lib.hid (low_set (HBY.out.trans (HF.out.mono HBY.out.size)) (by have := HSY.out; omega))
    have HS5 := Lib.hid (show w1.heap.size ≤ (w5.setCell ⟨g, p, none⟩ (.slice va f.length vc)).heap.size by have := HSY.out; have := HF.out.size; simp; omega)
    clear hrk5 q5 z5 hSF
    generalize w5.setCell ⟨g, p, none⟩ (.slice va f.length vc) = W5 at *
    refine anyT_done (by kernel_rfl) ?_ _
    obtain ⟨k0, k1, k2, k3, k4, k5, k6, k7, k8, k9⟩ := rg_cells _ _ _ _ _ _ _ _ _ hr1
    obtain ⟨n0, n1, n2, n3, n4, n5, n6, n7, n8, n9⟩ := rg_cells _ _ _ _ _ _ _ _ _ hr2
    obtain ⟨f0, f1, f2, f3, f4, f5, f6, f7, f8, f9⟩ := rg_frozen hr2
    obtain ⟨hY6, hg6⟩ := set10 hr2 sz ch fi W R S L c t (some ⟨g, 0, none⟩) m.length uc
    have HY6 := Lib.hid (And.intro hY6 hg6)
    clear hY6 hg6 hr1 hr2
    go_wp2_with fail
    refine bodyPost_ret (results_cell_tmp_row rfl _ _ (w.heap.size + 1) (rgC sz ch fi W R S L c t (.slice (some ⟨g, 0, none⟩) m.length uc)) rfl HY6.out.1 rfl) rfl ?_
    have hfin := (Rk.mat (by rw [List.length_set]; exact HRP.out.keep fun q h1 h2 => HY6.out.2.block q h2 (fun e => by cases e; have := HSY.out; omega)) (by rw [List.length_set]; have := HPL.out.2; omega)).base (show w.heap.size ≤ w1.heap.size by have := HSY.out; omega)
    exact ⟨_, _, by rw [List.length_set]; rfl, by rw [List.length_set]; exact hfin, HBF.out.grown HY6.out.2 HBF.out.size (fun k e => by cases e; omega)⟩
end Go.Proofs.Ytgcohmlapgnbdaa
