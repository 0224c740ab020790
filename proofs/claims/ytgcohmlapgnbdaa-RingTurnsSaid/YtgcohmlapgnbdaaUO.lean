/- The reference's ring: Frame, copied. -/
import Derived.Test.YtgcohmlapgnbdaaUN
namespace Go.Proofs.Ytgcohmlapgnbdaa
open Go.RowKit Go.Shelf Go.Deep
variable (sz ch fi W R S L c t : Int) (ma : Option Addr) (ml mc : Nat)

set_option maxHeartbeats 1000000 in
set_option maxRecDepth 100000 in
theorem refFrame_any (f : List Int) (v : Value) (w : World) (hv : RowIn w f v) : Calls Try.prog 82 #[rgV sz ch fi W R S L c t (.slice ma ml mc), v] w fun e w' => e = .returned (.bool (frm ch f)) ∧ Below w.heap.size w w' := by
  have HV := Lib.hid hv
  obtain ⟨a, ca, rfl, _, hal, _⟩ := hv
  obtain ⟨O, hO⟩ : ∃ O, Obj.cells (rgC sz ch fi W R S L c t (.slice ma ml mc)) 31 = O := ⟨_, rfl⟩
  have HB : Hid (Below w.heap.size w (w.alloc O)) := Lib.hid ((Below.refl _ w).alloc (Nat.le_refl _) _)
  have hc1 : (w.alloc O).cell? ⟨w.heap.size, 1, none⟩ = some (.int .i64 ch) := by rw [← hO]; simp [go_sem]
  obtain ⟨Z, hZ⟩ : ∃ Z, w.alloc O = Z := ⟨_, rfl⟩
  rw [hZ] at HB hc1
  subst hO
  go_enter Try.func82, Try.ntmps82
  go_wp2_with fail
  clear hZ
  go_loopw [5] (fun i wr => ∃ j : Nat, i = .int .i64 j ∧ j ≤ f.length ∧ (∀ k, k < j → smB (f.getD k 0) = true) ∧ wr = Z) (fun i _ => f.length - (intOf i).toNat)
  case atStart => exact ⟨0, rfl, Nat.zero_le _, fun k hk => absurd hk (Nat.not_lt_zero _), rfl⟩
  case round =>
    obtain ⟨j, rfl, hj, hok, rfl⟩ := hrel
    have HOK := Lib.hid hok
    clear hok
    by_cases hlt : j < f.length
    · have w4 : (j : Int) < (f.length : Int) := by omega
      obtain ⟨a2, ca2, e2, hin, _, _⟩ := HV.out.mono (Same.of_below HB.out)
      simp only [Value.slice.injEq, true_and] at e2
      obtain ⟨rfl, rfl⟩ := e2
      obtain ⟨b, off, rfl, hcj, _⟩ := hin j hlt
      obtain ⟨y, hy⟩ : ∃ y, f.getD j 0 = y := ⟨_, rfl⟩
      rw [hy] at hcj
      have HY := Lib.hid hy
      clear hin hy
      by_cases h1 : y < -8388607
      · go_wp2_with fail
        go_ret
        exact ⟨by rw [frm_no_smp hlt (by rw [HY.out]; simp [smB]; omega)]; rfl, HB.out⟩
      · by_cases h2 : 8388607 < y
        · go_wp2_with fail
          go_ret
          exact ⟨by rw [frm_no_smp hlt (by rw [HY.out]; simp [smB]; omega)]; rfl, HB.out⟩
        · go_wp2_with fail
          go_roundw
          case rel =>
            refine ⟨j + 1, by go_num, by omega, fun k hk => ?_, trivial⟩
            by_cases e : k = j
            · subst e; rw [HY.out]; simp [smB]; omega
            · exact HOK.out k (by omega)
          case measure => simp [intOf]; omega
    · have w4 : ¬ (j : Int) < (f.length : Int) := by omega
      go_wp2_with fail
      go_ret
      refine ⟨?_, HB.out⟩
      have hall : f.all smB = true := all_yes_of' (f := smB) (d := 0) fun k hk => HOK.out k (by omega)
      have e1 : frm ch f = ((f.length : Int) == ch) := by unfold frm; rw [hall, Bool.and_true]; rfl
      rw [e1]; rfl

theorem loadRing {w : World} {g : Nat} {cs : Array Value} (hg : w.heap[g]? = some (.cells cs 31 (0, 0))) (hs : cs.size = 10) : (loadVar 31 ⟨g, 0, none⟩).run Try.prog w = .ok (.agg cs) w := by
  obtain ⟨f, hu⟩ := Try.underlying31
  exact run_loadVar_row w g 31 31 cs (0, 0) _ hg hu rfl (by rw [hs]; exact Try.size31)
def rgF (sz ch fi W R S L c t : Int) (m : Value) : Nat → Value
  | 0 => .int .i64 sz
  | 1 => .int .i64 ch
  | 2 => .int .i64 fi
  | 3 => .int .i64 W
  | 4 => .int .i64 R
  | 5 => .int .i64 S
  | 6 => .int .i64 L
  | 7 => .int .i64 c
  | 8 => .int .i64 t
  | _ => m
theorem row10 {c : Array Value} {F : Nat → Value} (hs : c.size = 10) (h : ∀ i, i < 10 → c[i]? = some (F i)) : c = #[F 0, F 1, F 2, F 3, F 4, F 5, F 6, F 7, F 8, F 9] := by
  apply Array.ext
  · rw [hs]; rfl
  · intro i h1 h2
    have h3 := h i (by omega)
    rw [Array.getElem?_eq_getElem h1] at h3
    simp only [Option.some.injEq] at h3
    rw [h3]
    match i, h2 with
    | 0, _ => rfl
    | 1, _ => rfl
    | 2, _ => rfl
    | 3, _ => rfl
    | 4, _ => rfl
    | 5, _ => rfl
    | 6, _ => rfl
    | 7, _ => rfl
    | 8, _ => rfl
    | 9, _ => rfl
theorem loadRingF {w : World} {g : Nat} {F : Nat → Value} (h : w.rowIs g 31 10 F) : (loadVar 31 ⟨g, 0, none⟩).run Try.prog w = .ok (.agg #[F 0, F 1, F 2, F 3, F 4, F 5, F 6, F 7, F 8, F 9]) w := by
  obtain ⟨c, h1, h2, h3⟩ := h
  rw [← row10 h2 h3]
  exact loadRing h1 h2
theorem grown_set {X Y : World} {g : Nat} (h : X.grownBy Y (some g)) (i : Nat) (v : Value) : X.grownBy (Y.setCell ⟨g, i, none⟩ v) (some g) :=
  ⟨h.os, h.tape, h.output, by simpa using h.size, fun k hk hne => (blk_setCell_other _ _ _ _ (fun e => hne (by rw [show k = g from e]))).trans (h.block k hk hne)⟩
theorem set10 {Y : World} {g : Nat} {F : Nat → Value} (h : Y.rowIs g 31 10 F) (sz ch fi W R S L c t : Int) (ma : Option Addr) (ml mc : Nat) :
    ((((((((((Y.setCell ⟨g, 0, none⟩ (.int .i64 sz)).setCell ⟨g, 1, none⟩ (.int .i64 ch)).setCell ⟨g, 2, none⟩ (.int .i64 fi)).setCell ⟨g, 3, none⟩ (.int .i64 W)).setCell ⟨g, 4, none⟩ (.int .i64 R)).setCell ⟨g, 5, none⟩ (.int .i64 S)).setCell ⟨g, 6, none⟩ (.int .i64 L)).setCell ⟨g, 7, none⟩ (.int .i64 c)).setCell ⟨g, 8, none⟩ (.int .i64 t)).setCell ⟨g, 9, none⟩ (.slice ma ml mc)).heap[g]? = some (.cells (rgC sz ch fi W R S L c t (.slice ma ml mc)) 31 (0, 0)) ∧ Y.grownBy ((((((((((Y.setCell ⟨g, 0, none⟩ (.int .i64 sz)).setCell ⟨g, 1, none⟩ (.int .i64 ch)).setCell ⟨g, 2, none⟩ (.int .i64 fi)).setCell ⟨g, 3, none⟩ (.int .i64 W)).setCell ⟨g, 4, none⟩ (.int .i64 R)).setCell ⟨g, 5, none⟩ (.int .i64 S)).setCell ⟨g, 6, none⟩ (.int .i64 L)).setCell ⟨g, 7, none⟩ (.int .i64 c)).setCell ⟨g, 8, none⟩ (.int .i64 t)).setCell ⟨g, 9, none⟩ (.slice ma ml mc)) (some g) := by
  refine ⟨?_, ?_⟩
  · obtain ⟨c', h1, h2, h3⟩ := ((((((((((h.set 0 _).set 1 _).set 2 _).set 3 _).set 4 _).set 5 _).set 6 _).set 7 _).set 8 _).set 9 _)
    rw [h1, row10 h2 h3]
    rfl
  · exact (grown_set (grown_set (grown_set (grown_set (grown_set (grown_set (grown_set (grown_set (grown_set (grown_set ⟨rfl, rfl, rfl, Nat.le_refl _, fun _ _ _ => rfl⟩ 0 _) 1 _) 2 _) 3 _) 4 _) 5 _) 6 _) 7 _) 8 _) 9 _)
theorem Rz.rk {w wr : World} {rows : List (List Int)} {vals : List Value} {v : Value} (h : Rz w wr rows vals v) : Rk w.heap.size wr rows.length rows vals v :=
  ⟨h.len, by rw [List.take_of_length_le (by rw [h.len]; exact Nat.le_refl _)]; exact h.own, h.row, h.ok⟩
theorem Rk.base {B B' : Nat} {W : World} {k : Nat} {rows : List (List Int)} {vals : List Value} {v : Value} (h : Rk B W k rows vals v) (hb : B' ≤ B) : Rk B' W k rows vals v :=
  ⟨h.len, owns_base h.own hb, fun j hj => ⟨owns_base (h.row j hj).1 hb, (h.row j hj).2⟩, h.ok⟩
theorem Rz.startAt {B : World} {e : Array Value} (he : e = #[]) : Rz B (B.alloc (.cells e 39)) [] [] (.slice (some ⟨B.heap.size, 0, none⟩) 0 0) := by
  subst he
  exact ⟨(Below.refl _ _).alloc (Nat.le_refl _) _, rfl, World.ownsRow_made B #[] 0 (Nat.le_refl _) (by simp) (by simp), fun j hj => absurd hj (Nat.not_lt_zero _), fun j hj => absurd hj (Nat.not_lt_zero _)⟩
def CopAns (m : List (List Int)) (w : World) (e : Ending) (w' : World) : Prop := ∃ up uc vals, e = .returned (rgV sz ch fi W R S L c t (.slice up m.length uc)) ∧ Rk w.heap.size w' m.length m vals (.slice up m.length uc) ∧ Below w.heap.size w w'
set_option maxHeartbeats 1000000 in
set_option maxRecDepth 100000 in
theorem refCopied_any (m : List (List Int)) (w : World) (hm : MatIn w m (.slice ma m.length mc)) (hn : m.length ≤ 1024) : Calls Try.prog 101 #[rgV sz ch fi W R S L c t (.slice ma m.length mc)] w (CopAns sz ch fi W R S L c t m w) := by
  have HM := Lib.hid hm
  obtain ⟨f31, hu31⟩ := Try.underlying31
  obtain ⟨i1, hi1, hy0, hy1, hy2⟩ := info_parts Try.info39
  obtain ⟨O1, hO1⟩ : ∃ O1, Obj.cells (rgC sz ch fi W R S L c t (.slice ma m.length mc)) 31 = O1 := ⟨_, rfl⟩
  obtain ⟨O2, hO2⟩ : ∃ O2, Obj.cells (rgC 0 0 0 0 0 0 0 0 0 (.slice none 0 0)) 31 = O2 := ⟨_, rfl⟩
  have hb1 : Below w.heap.size w ((w.alloc O1).alloc O2) := ((Below.refl _ w).alloc (Nat.le_refl _) _).alloc (by simp) _
  have hsz : ((w.alloc O1).alloc O2).heap.size = w.heap.size + 1 + 1 := by simp
  have q1 : ((w.alloc O1).alloc O2).heap[w.heap.size]? = some O1 := (blk_alloc_lt _ _ _ (by simp)).trans (blk_alloc_new w O1)
  have q2 : ((w.alloc O1).alloc O2).heap[w.heap.size + 1]? = some O2 := al2b w O1 O2
  obtain ⟨Wb, hWb⟩ : ∃ Wb, (w.alloc O1).alloc O2 = Wb := ⟨_, rfl⟩
  rw [hWb] at hb1 hsz q1 q2
  have hstart : Rz Wb (Wb.alloc (.cells #[] 39)) [] [] (.slice (some ⟨Wb.heap.size, 0, none⟩) 0 0) := Rz.startAt rfl
  have HB1 := Lib.hid hb1
  have HSZ := Lib.hid hsz
  have HQ1 := Lib.hid q1
  have HQ2 := Lib.hid q2
  have HST := Lib.hid hstart
  clear hb1 hsz q1 q2 hstart
  go_enter Try.func101, Try.ntmps101
  go_wp2_with fail
  clear hWb
  go_loopw [4, 3] (fun i v wr => ∃ (j : Nat) (vals : List Value), i = .int .i64 j ∧ j ≤ m.length ∧ Rz Wb wr (m.take j) vals v) (fun i _ _ => m.length - (intOf i).toNat)
  case atStart => exact ⟨0, [], rfl, Nat.zero_le _, by rw [List.take_zero]; exact HST.out⟩
  case round =>
    obtain ⟨j, vals, rfl, hj, hrz⟩ := hrel
    have HRZ := Lib.hid hrz
    have HBR : Hid (Below Wb.heap.size Wb wr) := Lib.hid hrz.below
    have q9 : wr.cell? ⟨w.heap.size, 9, none⟩ = some (.slice ma m.length mc) := by
      have h1 : wr.heap[w.heap.size]? = some O1 := (HBR.out.block _ (by rw [HSZ.out]; omega)).trans HQ1.out
      rw [← hO1] at h1
      unfold World.cell?
      rw [h1]
      rfl
    clear hrz
    by_cases hlt : j < m.length
    · have w4 : (j : Int) < (m.length : Int) := by omega
      have hbw : Below w.heap.size w wr := HB1.out.trans (HBR.out.mono (by rw [HSZ.out]; omega))
      obtain ⟨a2, ca2, e2, hin, _, _⟩ := HM.out.mono (Same.of_below hbw)
      simp only [Value.slice.injEq, true_and] at e2
      obtain ⟨rfl, rfl⟩ := e2
      obtain ⟨bb, ob, u, rfl, hcj, hu⟩ := hin j hlt
      obtain ⟨r, hr⟩ : ∃ r, m.getD j [] = r := ⟨_, rfl⟩
      rw [hr] at hu
      obtain ⟨ra, rc, rfl, hri, hrl, hrc⟩ := hu
      have HRI := Lib.hid hri
      have HR := Lib.hid hr
      have HBW := Lib.hid hbw
      clear hin hri hr hbw
      have hown : (wr.alloc (.cells #[] 3)).ownsRow wr.heap.size 3 1 (.slice (some ⟨wr.heap.size, 0, none⟩) 0 0) 0 (([] : List Int).map (Value.int .i64)) := World.ownsRow_made wr #[] 0 (Nat.le_refl _) (by simp) (by simp)
      have hcj2 := (Same.alloc wr (.cells #[] 3)).cell hcj
      have q92 := (Same.alloc wr (.cells #[] 3)).cell q9
      have hsrc := src_of (f := r) (w := wr.alloc (.cells #[] 3)) (av := ra) (n := r.length) (cv := rc) ⟨ra, rc, rfl, HRI.out.mono (Same.alloc _ _), hrl, hrc⟩ rfl
      have HO := Lib.hid hown
      have HS := Lib.hid hsrc
      have HRL := Lib.hid hrl
      have HJ := Lib.hid (And.intro hlt hn)
      clear hown hsrc hrl hrc
      go_wp2_with (at_builtin; refine wpList_append_ints rfl (.tmp 14) (.tmp 19) rfl wr.heap.size _ 0 [] rfl HO.out ra r.length rc rfl r rfl HS.out (by have := HRL.out; omega) (by simp) ?_)
      intro v2 w3 o2 g2 m2
      obtain ⟨p2, c2, rfl⟩ := slice_owns o2
      have HB3 : Hid (Below wr.heap.size wr w3) := Lib.hid (((Below.refl _ wr).alloc (Nat.le_refl _) _).grown g2 (by simp) (fun k e => by cases e; exact Nat.le_refl _))
      have HN2 : Hid (w3.ownsRow wr.heap.size 3 1 (.slice p2 r.length c2) r.length (r.map (Value.int .i64))) := Lib.hid (by simpa using o2)
      have HW3 : Hid (Below wr.heap.size wr (w3.alloc (.cells #[.slice p2 r.length c2] 39))) := Lib.hid (Below.then HB3.out (Nat.le_refl _) ((Below.refl _ _).alloc (Nat.le_refl _) _))
      have hown2 : (w3.alloc (.cells #[.slice p2 r.length c2] 39)).ownsRow Wb.heap.size 39 1 u3 j vals := by
        have h1 := HRZ.out.own
        rw [show (m.take j).length = j by rw [List.length_take]; omega] at h1
        exact owns_below h1 HW3.out
      have HO2 := Lib.hid hown2
      have HOK : Hid (okRow r) := Lib.hid ⟨HRL.out, fun i hi => by obtain ⟨_, _, _, _, h3⟩ := HRI.out i hi; exact h3⟩
      clear o2 g2 m2 hown2
      go_wp2_with (at_builtin; refine wpList_append_moves rfl (.tmp 13) (.tmp 21) 29 rfl Wb.heap.size 39 i1 _ 1 24 Try.underlying29 hi1 hy0 hy1 hy2 rfl (by decide) u3 j vals rfl HO2.out ⟨w3.heap.size, 0, none⟩ 1 1 [.slice p2 r.length c2] rfl rfl (cell_one_new _ _ _) (by simp [Value.oneCell']) ?d1 (by have := HJ.out; omega) (by have := HW3.out.size; have := HBR.out.size; omega) ?_)
      case d1 => have := HJ.out; unfold maxLen; omega
      intro v4 w4' o4 g4 m4
      have HF : Hid (Rz Wb w4' (m.take (j + 1)) (vals ++ [.slice p2 r.length c2]) v4) := Lib.hid (by
        rw [take_snocD m j [] HJ.out.1, HR.out]
        exact HRZ.out.step HW3.out (HN2.out.alloc _) (by rw [show (m.take j).length = j by rw [List.length_take]; have := HJ.out.1; omega]; exact o4) g4 m4 HOK.out)
      clear o4 g4 m4
      go_wp2_with fail
      go_roundw
      case rel => exact ⟨j + 1, _, by go_num, by omega, HF.out⟩
      case measure => simp [intOf]; omega
    · have w4 : ¬ (j : Int) < (m.length : Int) := by omega
      obtain rfl : j = m.length := by omega
      rw [List.take_of_length_le (Nat.le_refl m.length)] at HRZ
      obtain ⟨up, uc, rfl⟩ := slice_owns HRZ.out.own
      have h1 : wr.rowIs w.heap.size 31 10 (rgF sz ch fi W R S L c t (.slice ma m.length mc)) := by
        refine ⟨_, (HBR.out.block _ (by rw [HSZ.out]; omega)).trans (by rw [HQ1.out, ← hO1]), rfl, fun i hi => ?_⟩
        match i with
        | 0 => rfl
        | 1 => rfl
        | 2 => rfl
        | 3 => rfl
        | 4 => rfl
        | 5 => rfl
        | 6 => rfl
        | 7 => rfl
        | 8 => rfl
        | 9 => rfl
      have z9 := h1.frozen 9
      have h2 : wr.rowIs (w.heap.size + 1) 31 10 (rgF 0 0 0 0 0 0 0 0 0 (.slice none 0 0)) := by
        refine ⟨_, (HBR.out.block _ (by rw [HSZ.out]; omega)).trans (by rw [HQ2.out, ← hO2]), rfl, fun i hi => ?_⟩
        match i with
        | 0 => rfl
        | 1 => rfl
        | 2 => rfl
        | 3 => rfl
        | 4 => rfl
        | 5 => rfl
        | 6 => rfl
        | 7 => rfl
        | 8 => rfl
        | 9 => rfl
      have hrow2 := h2.setOther (a := ⟨w.heap.size, 9, none⟩) (by show w.heap.size + 1 ≠ w.heap.size; omega) (.slice up m.length uc)
      obtain ⟨hY, hg⟩ := set10 hrow2 sz ch fi W R S L c t up m.length uc
      have hbS : Below w.heap.size w (wr.setCell ⟨w.heap.size, 9, none⟩ (.slice up m.length uc)) := low_set (HB1.out.trans (HBR.out.mono (by rw [HSZ.out]; omega))) (Nat.le_refl _)
      have HRK2 : Hid (Rk Wb.heap.size (wr.setCell ⟨w.heap.size, 9, none⟩ (.slice up m.length uc)) m.length m vals (.slice up m.length uc)) := Lib.hid (HRZ.out.rk.keep fun g hg1 _ => blk_setCell_other _ _ _ _ (by show g ≠ w.heap.size; rw [HSZ.out] at hg1; omega))
      have hrowS := h1.set 9 (.slice up m.length uc)
      have HBS := Lib.hid hbS
      have HY := Lib.hid (And.intro hY hg)
      clear h1 h2 hY hg hbS
      generalize hwS : wr.setCell ⟨w.heap.size, 9, none⟩ (.slice up m.length uc) = wS at *
      have k0 := hrowS.cell (i := 0) (by decide)
      have k1 := hrowS.cell (i := 1) (by decide)
      have k2 := hrowS.cell (i := 2) (by decide)
      have k3 := hrowS.cell (i := 3) (by decide)
      have k4 := hrowS.cell (i := 4) (by decide)
      have k5 := hrowS.cell (i := 5) (by decide)
      have k6 := hrowS.cell (i := 6) (by decide)
      have k7 := hrowS.cell (i := 7) (by decide)
      have k8 := hrowS.cell (i := 8) (by decide)
      have k9 := hrowS.cell (i := 9) (by decide)
      dsimp only [rgF] at k0 k1 k2 k3 k4 k5 k6 k7 k8 k9
      simp at k0 k1 k2 k3 k4 k5 k6 k7 k8 k9
      have n0 := hrow2.cell (i := 0) (by decide)
      have f0 := hrow2.frozen 0
      have n1 := hrow2.cell (i := 1) (by decide)
      have f1 := hrow2.frozen 1
      have n2 := hrow2.cell (i := 2) (by decide)
      have f2 := hrow2.frozen 2
      have n3 := hrow2.cell (i := 3) (by decide)
      have f3 := hrow2.frozen 3
      have n4 := hrow2.cell (i := 4) (by decide)
      have f4 := hrow2.frozen 4
      have n5 := hrow2.cell (i := 5) (by decide)
      have f5 := hrow2.frozen 5
      have n6 := hrow2.cell (i := 6) (by decide)
      have f6 := hrow2.frozen 6
      have n7 := hrow2.cell (i := 7) (by decide)
      have f7 := hrow2.frozen 7
      have n8 := hrow2.cell (i := 8) (by decide)
      have f8 := hrow2.frozen 8
      have n9 := hrow2.cell (i := 9) (by decide)
      have f9 := hrow2.frozen 9
      dsimp only [rgF] at n0 n1 n2 n3 n4 n5 n6 n7 n8 n9
      clear hrowS hrow2
      go_wp2_with fail
      refine bodyPost_ret (results_cell_row (P := Try.prog) rfl _ _ (w.heap.size + 1) 31 (rgC sz ch fi W R S L c t (.slice up m.length uc)) (0, 0) _ rfl HY.out.1 hu31 rfl Try.size31) rfl ?_
      exact ⟨_, _, vals, rfl, (HRK2.out.keep fun k hk1 hk2 => HY.out.2.block k hk2 (fun e => by cases e; rw [HSZ.out] at hk1; omega)).base (by rw [HSZ.out]; omega), HBS.out.grown HY.out.2 HBS.out.size (fun k e => by cases e; omega)⟩
end Go.Proofs.Ytgcohmlapgnbdaa
