/- A dither's Encode: the rounding in hand, and the whole. -/
import Derived.Test.YtegomicpolnpoaaXA
namespace Go.Proofs.Ytegomicpolnpoaa
open Go.RowKit Go.Deep Go.Shelf

set_option maxHeartbeats 1000000 in
set_option maxRecDepth 100000 in
theorem fitted66_kp (f : FuncId) (caps : Array Value) (w : World) (n0 Bd : Nat) (hn0 : n0 ≤ w.heap.size) (hBd : Bd ≤ w.heap.size) (Φ : Value → World → Prop) (hΦ : ∀ u w1 w2, (∀ k, k ≠ w.heap.size → k < w1.heap.size → w2.heap[k]? = w1.heap[k]?) → w1.heap.size ≤ w2.heap.size → Φ u w1 → Φ u w2)
    (hcf : ∀ w : World, (callFunc f caps).run Try.prog w = .ok (.enter f caps) w)
    (hc : Calls Try.prog f caps (w.alloc (.cells #[.int .i64 0] 22)) fun e w' => ∃ u, e = .returned u ∧ Φ u w' ∧ KpB n0 Bd (w.alloc (.cells #[.int .i64 0] 22)) w') :
    Calls Try.prog 66 #[.func (.func f) #[] caps] w fun e w' => ∃ u, e = .returned (.tuple #[u, .int .i64 0]) ∧ Φ u w' ∧ KpB n0 Bd w w' := by
  have hmf : ∀ (fn : Fn) (first cap : Array Value) (w : World), (Instr.makeFunc fn first cap).run Try.prog w = .ok (.func fn first cap) w := fun _ _ _ _ => rfl
  go_enter_defers Try.func66, Try.ntmps66
  go_wp2_with fail
  refine hc.mono ?_
  rintro e w1 ⟨u, rfl, hu, hb⟩
  have hlt : w.heap.size < w1.heap.size := by have := hb.1.size; simp at this; omega
  have hblk : w1.heap[w.heap.size]? = (w.alloc (.cells #[.int .i64 0] 22)).heap[w.heap.size]? := by
    rw [World.alloc_heap_new]
    exact hb.2 _ _ hBd (World.alloc_heap_new w _) rfl
  have k1 : w1.cell? ⟨w.heap.size, 0, none⟩ = some (.int .i64 0) := by rw [World.cell?_of_block (w := w.alloc (.cells #[.int .i64 0] 22)) hblk]; simp [go_sem]
  have k2 : w1.frozen? ⟨w.heap.size, 0, none⟩ = false := by rw [World.frozen?_of_block (w := w.alloc (.cells #[.int .i64 0] 22)) hblk]; simp [go_sem]
  have HB := Lib.hid hb
  have HU := Lib.hid hu
  clear hb hu hc hblk
  go_wp2_with fail
  refine leaves_cons (f := 105) (args := #[.pointer (some ⟨w.heap.size, 0, none⟩)]) (by simp) (by simp [go_sem]) ?_
  refine (catch105_idle ⟨w.heap.size, 0, none⟩ _).mono ?_
  rintro e u' w'' ⟨rfl, rfl, rfl⟩
  have k3 : ((w1.setCell ⟨w.heap.size, 0, none⟩ (.int .i64 0)).alloc (.cells #[.int .i64 0] 116)).cell? ⟨w.heap.size, 0, none⟩ = some (.int .i64 0) :=
    (Same.alloc _ _).cell (World.cell?_setCell_same _ _ _ k1)
  have hs : ∀ k, k ≠ w.heap.size → k < w1.heap.size → ((w1.setCell ⟨w.heap.size, 0, none⟩ (.int .i64 0)).alloc (.cells #[.int .i64 0] 116)).heap[k]? = w1.heap[k]? := fun k hk hlt2 =>
    (Below.heap_alloc _ _ k (by simpa using hlt2)).trans (blk_setCell_other _ _ _ _ hk)
  have hkp : KpB n0 Bd w ((w1.setCell ⟨w.heap.size, 0, none⟩ (.int .i64 0)).alloc (.cells #[.int .i64 0] 116)) :=
    ((((KpB.alloc w _ hn0).trans HB.out).grown hn0 (grown_set w1 w.heap.size 0 _) (fun r e => by cases e; exact Nat.le_refl _)).grown hn0 (grown_alloc _ _ none) (fun r e => by cases e))
  have hfin := hΦ _ _ _ hs (by simp) HU.out
  simp [Leaves, settle, results, Try.results66, go_sem, k3]
  exact ⟨hfin, hkp⟩

theorem lvl_far2 {e : Nat} (h1 : 1 ≤ e) (h8 : e ≤ 8) (a : Int) : -2147483648 ≤ lvl (bitsN e) a ∧ lvl (bitsN e) a ≤ 2147483647 := by
  have hb : ∀ x t : Int, 0 ≤ t → t ≤ 2147483647 → -2147483648 ≤ bnd x t ∧ bnd x t ≤ 2147483647 := fun x t h h2 => by unfold bnd; omega
  exact eightN h1 h8 (p := fun e => -2147483648 ≤ lvl (bitsN e) a ∧ lvl (bitsN e) a ≤ 2147483647)
    (hb _ 127 (by decide) (by decide)) (hb _ 127 (by decide) (by decide)) (hb _ 32767 (by decide) (by decide)) (hb _ 32767 (by decide) (by decide)) (hb _ 8388607 (by decide) (by decide)) (hb _ 8388607 (by decide) (by decide)) (hb _ 2147483647 (by decide) (by decide)) (hb _ 2147483647 (by decide) (by decide))
theorem step_shl {e : Nat} (h1 : 1 ≤ e) (h4 : e ≤ 4) : (bitsN e = 8 ∧ stepN e = 65536) ∨ (bitsN e = 16 ∧ stepN e = 256) := by
  have : e = 1 ∨ e = 2 ∨ e = 3 ∨ e = 4 := by omega
  rcases this with rfl | rfl | rfl | rfl
  · exact .inl ⟨rfl, rfl⟩
  · exact .inl ⟨rfl, rfl⟩
  · exact .inr ⟨rfl, rfl⟩
  · exact .inr ⟨rfl, rfl⟩

set_option maxHeartbeats 1000000 in
set_option maxRecDepth 100000 in
theorem rounding_any {e : Nat} (h1 : 1 ≤ e) (h4 : e ≤ 4) (D E r : Nat) (sh : Bool) (l : Int) (w : World) (hT : w.rowIs D 107 4 (dF e sh E r l)) :
    Calls Try.prog 92 #[.pointer (some ⟨D, 0, none⟩)] w fun y w' => ∃ P2 P3, y = .returned (.func (.func 118) #[] #[at0 P2, at0 P3]) ∧ w.heap.size ≤ P2 ∧ w.heap.size ≤ P3 ∧ w'.cell? ⟨P2, 0, none⟩ = some (.pointer (some ⟨D, 0, none⟩)) ∧ w'.cell? ⟨P3, 0, none⟩ = some (.int .i64 (stepN e)) ∧ Below w.heap.size w w' := by
  have c1 := hT.cell (i := 1) (by decide)
  rw [show dF e sh E r l 1 = cdv e from rfl] at c1
  have hlt := hT.lt
  obtain ⟨bm, hbm, hbe, hbits⟩ := isCd h1 (show e ≤ 8 by omega)
  unfold cdv at c1
  generalize cdT e = T at *
  generalize cdX e = Y at *
  have c1' : ∀ Z, (w.alloc Z).cell? ⟨D, 1, none⟩ = some (.iface T Y) := fun Z => (Same.alloc _ Z).cell c1
  have hmf := makes
  have HBITS := Lib.hid hbits
  clear hbits hT
  rcases step_shl h1 h4 with ⟨hb, hs⟩ | ⟨hb, hs⟩
  all_goals
    rw [hs]
    rw [hb] at HBITS
    clear hb hs
    go_enter Try.func92, Try.ntmps92
    go_wp2_with fail
    refine (HBITS.out _).mono ?_
    rintro y w1 ⟨rfl, hb1⟩
    have hz := hb1.size
    simp only [World.size_alloc] at hz
    have kp : w1.cell? ⟨w.heap.size, 0, none⟩ = some (.pointer (some ⟨D, 0, none⟩)) := (hb1.cell (p := ⟨w.heap.size, 0, none⟩) (by simp)).trans (by simp [go_sem])
    have HB1 := Lib.hid (((Below.refl _ w).alloc (Nat.le_refl _) (.cells #[.pointer (some ⟨D, 0, none⟩)] 49)).trans (hb1.mono (by simp)))
    clear hb1
    go_wp2_with fail
    go_ret
    exact ⟨w.heap.size, w1.heap.size, rfl, Nat.le_refl _, by omega, (Same.alloc _ _).cell kp, by simp [go_sem], HB1.out.alloc (by omega) _⟩
theorem DS.keep {D E r e : Nat} {sh : Bool} {s : Int × List Int} {X Y : World} (h : DS D E r e sh s X) (hD : Y.heap[D]? = X.heap[D]?) (hE : Y.heap[E]? = X.heap[E]?) : DS D E r e sh s Y :=
  ⟨h.top.of_block hD, h.row.of_block hE, h.last, h.len, h.errs⟩
theorem DS.ne {D E r e : Nat} {sh : Bool} {s : Int × List Int} {X : World} (h : DS D E r e sh s X) : D ≠ E := rowIs_ne h.top h.row (by decide)

theorem dRnds {e : Nat} (h1 : 1 ≤ e) (h4 : e ≤ 4) (D E r P2 P3 n0 Bd : Nat) (sh : Bool) (w : World) (hD : n0 ≤ D ∧ D < Bd) (hE : n0 ≤ E ∧ E < Bd) (hBd : Bd ≤ w.heap.size) (h2 : Bd ≤ P2 ∧ P2 < w.heap.size) (h3 : Bd ≤ P3 ∧ P3 < w.heap.size) (hr8 : r ≤ 8) :
    Rnds 118 #[at0 P2, at0 P3] n0 Bd r (fun s X => DS D E r e sh s X ∧ X.cell? ⟨P2, 0, none⟩ = some (.pointer (some ⟨D, 0, none⟩)) ∧ X.cell? ⟨P3, 0, none⟩ = some (.int .i64 (stepN e))) (dLv e) (dNx e sh) w := by
  refine ⟨enters_of Try.func118 (by kernel_rfl) rfl, ?_, ?_⟩
  · rintro s X Y row ⟨hs, k2, k3⟩ hg hr
    have far : ∀ k, k < w.heap.size → k < X.heap.size → Y.heap[k]? = X.heap[k]? := fun k hk hx => hg.block k hx (fun e => by have := hr k e.symm; omega)
    exact ⟨hs.keep (far D (by omega) hs.top.lt) (far E (by omega) hs.row.lt), (World.cell?_of_block (w := X) (a := ⟨P2, 0, none⟩) (far P2 h2.2 (cell_lt k2))).trans k2, (World.cell?_of_block (w := X) (a := ⟨P3, 0, none⟩) (far P3 h3.2 (cell_lt k3))).trans k3⟩
  · rintro s X ch x hX ⟨hs, k2, k3⟩ hch hx
    refine (dither1_any h1 h4 D E r P2 P3 sh s ch x X hs hch hr8 hx k2 k3 ⟨by omega, by omega⟩ hs.ne).mono ?_
    rintro y X' ⟨rfl, hds, hb, hsz, hblk⟩
    have hl := (lvl_far2 h1 (show e ≤ 8 by omega) (x - s.2.getD ch 0 + (nxt s.1 % stepN e - stepN e / 2)))
    refine ⟨rfl, hl, ⟨hds, ?_, ?_⟩, ⟨hb.mono (Nat.le_min.2 ⟨hD.1, hE.1⟩), fun k o hk ho _ => (hblk k (Array.getElem?_eq_some_iff.1 ho).1 (by omega) (by omega)).trans ho⟩, ⟨hsz, fun k o ho hc => (hblk k (Array.getElem?_eq_some_iff.1 ho).1 (fun e => ?_) (fun e => ?_)).trans ho⟩⟩
    · exact (World.cell?_of_block (w := X) (a := ⟨P2, 0, none⟩) (hblk P2 (cell_lt k2) (by omega) (by omega))).trans k2
    · exact (World.cell?_of_block (w := X) (a := ⟨P3, 0, none⟩) (hblk P3 (cell_lt k3) (by omega) (by omega))).trans k3
    · subst e
      obtain ⟨cc, hc1, _⟩ := hs.top
      rw [hc1] at ho; cases ho; cases hc
    · subst e
      obtain ⟨cc, hc1, _⟩ := hs.row
      rw [hc1] at ho; cases ho; cases hc
end Go.Proofs.Ytegomicpolnpoaa
namespace Go.Proofs.Ytegomicpolnpoaa
open Go.RowKit Go.Deep Go.Shelf

theorem find_fst : ∀ {l : List ((Nat × Nat) × Int)}, (l.map Prod.fst).Nodup → ∀ y ∈ l, l.find? (fun z => z.1 == y.1) = some y
  | [], _, y, h => by cases h
  | x :: l, hn, y, h => by
    rw [List.map_cons, List.nodup_cons] at hn
    rcases List.mem_cons.1 h with rfl | h
    · simp
    · have hne : x.1 ≠ y.1 := fun e => hn.1 (e ▸ List.mem_map.2 ⟨y, h, rfl⟩)
      rw [List.find?_cons_of_neg (by simpa using hne)]
      exact find_fst hn.2 y h
/-- The levels that a dither gives a block, spot by spot; its bytes; the state behind it. -/
def dLV (e : Nat) (sh : Bool) (m : List (List Int)) (s : Int × List Int) (x : Nat × Nat) : Int :=
  (((lvTo (dLv e) (dNx e sh) m s (spTo m.length (cols m))).find? (fun z => z.1 == x)).getD (x, 0)).2
theorem dLV_at (e : Nat) (sh : Bool) (m : List (List Int)) (s : Int × List Int) : ∀ y ∈ lvTo (dLv e) (dNx e sh) m s (spTo m.length (cols m)), y.2 = dLV e sh m s y.1 := fun y hy => by
  unfold dLV
  rw [find_fst (by rw [lvTo_fst]; exact spTo_nodup _ _) y hy]
  rfl
def dBytes (e : Nat) (sh p : Bool) (m : List (List Int)) (s : Int × List Int) : ByteArray := laidL e p m.length (cols m) (dLV e sh m s) (cols m * m.length)
def dEnd (e : Nat) (sh : Bool) (m : List (List Int)) (s : Int × List Int) : Int × List Int := stTo (dNx e sh) m s (spTo m.length (cols m))

set_option maxHeartbeats 2000000 in
set_option maxRecDepth 100000 in
theorem denc1_yes {e : Nat} (h1 : 1 ≤ e) (h4 : e ≤ 4) (D E n0 Bd : Nat) (sh p : Bool) (s : Int × List Int) (m : List (List Int)) (v : Value) (Bq Bb Bp : Nat) (w : World) (hS : DS D E m.length e sh s w)
    (hM : ∀ X, Below n0 w X → MatIn X m v) (hv : validB m = true) (hD : n0 ≤ D ∧ D < Bd) (hE : n0 ≤ E ∧ E < Bd) (hBd : Bd ≤ w.heap.size)
    (kq : w.cell? ⟨Bq, 0, none⟩ = some (.pointer (some ⟨D, 0, none⟩))) (kb : w.cell? ⟨Bb, 0, none⟩ = some v) (kp : w.cell? ⟨Bp, 0, none⟩ = some (.bool p)) :
    Calls Try.prog 91 #[at0 Bq, at0 Bb, at0 Bp] w fun y w' => ∃ u, y = .returned u ∧ (u = .string (dBytes e sh p m s) ∧ DS D E m.length e sh (dEnd e sh m s) w') ∧ KpB n0 Bd w w' := by
  have h68 := validBlock_any m v w (hM w (Below.refl _ _))
  rw [hv] at h68
  have hmu1 := must_yes 1 w
  have hmu := fun X => must_yes 11 X
  obtain ⟨hr1, hr8, hc4, hc⟩ := validB_parts hv
  have hok := validB_smp hv
  obtain ⟨a, ca, hva, _, _, _⟩ := id (hM w (Below.refl _ _))
  have c1 := hS.top.cell (i := 1) (by decide)
  have c3 := hS.top.cell (i := 3) (by decide)
  rw [show dF e sh E m.length s.1 1 = cdv e from rfl] at c1
  rw [show dF e sh E m.length s.1 3 = .slice (some ⟨E, 0, none⟩) m.length m.length from rfl] at c3
  unfold cdv at c1
  have hrnd := fun (X : World) (hX : X.rowIs D 107 4 (dF e sh E m.length s.1)) => rounding_any h1 h4 D E m.length sh s.1 X hX
  have hwr : ∀ (X : World) (P2 P3 : Nat), Below w.heap.size w X → w.heap.size ≤ P2 → w.heap.size ≤ P3 → X.cell? ⟨P2, 0, none⟩ = some (.pointer (some ⟨D, 0, none⟩)) → X.cell? ⟨P3, 0, none⟩ = some (.int .i64 (stepN e)) →
      Calls Try.prog 69 #[.iface (cdT e) (cdX e), .bool p, v, .func (.func 118) #[] #[at0 P2, at0 P3]] X fun y w' => y = .returned (.string (dBytes e sh p m s)) ∧ DS D E m.length e sh (dEnd e sh m s) w' ∧ KpB n0 Bd w w' := fun X P2 P3 hX q2 q3 k2 k3 => by
    have hSX : DS D E m.length e sh s X := hS.keep (hX.block D (by omega)) (hX.block E (by omega))
    have l2 := cell_lt k2
    have l3 := cell_lt k3
    simp only at l2 l3
    refine (written_any (σ := Int × List Int) h1 (show e ≤ 8 by omega) p m v (cols m) n0 Bd 118 #[at0 P2, at0 P3] _ (dLv e) (dNx e sh) s X (fun Z hZ => hM Z ((hX.mono (by omega)).trans hZ)) hr1 hr8 hc hc4 hok (by omega) (by have := hX.size; omega)
      (dRnds h1 h4 D E m.length P2 P3 n0 Bd sh X hD hE (by have := hX.size; omega) ⟨by omega, l2⟩ ⟨by omega, l3⟩ hr8) ⟨hSX, k2, k3⟩ (dLV e sh m s) (dLV_at e sh m s)).mono ?_
    rintro y w' ⟨rfl, hst, hk⟩
    exact ⟨rfl, hst.1, (KpB.of_below (by omega) hX).trans hk⟩
  have HWR := Lib.hid hwr
  have HRND := Lib.hid hrnd
  have HMU := Lib.hid hmu
  have HTOP := Lib.hid hS.top
  rw [hva] at kb h68
  have HVA := Lib.hid hva
  obtain ⟨T, hT⟩ : ∃ T, T = cdT e := ⟨_, rfl⟩
  obtain ⟨Y, hY⟩ : ∃ Y, Y = cdX e := ⟨_, rfl⟩
  rw [← hT, ← hY] at c1 HWR
  have d1 : ((m.length : Int) == (m.length : Int)) = true := by simp
  clear hwr hrnd hmu hS hM hv hc hok hva hT hY
  go_enter Try.func91, Try.ntmps91
  go_wp2_with (first
    | (go_at_call 68; (with_reducible refine h68.mono ?_); rintro y w1 ⟨rfl, rfl⟩)
    | (go_at_call 53; (with_reducible refine hmu1.mono ?_); rintro y w1 ⟨rfl, rfl⟩))
  clear h68 hmu1
  refine region_T (S := fun wx => wx = w.drew) [] (by kernel_rfl) rfl (fun _ => ?_)
  refine anyT_take (i := 0) (v := ?_) rfl (by kernel_rfl) (by kernel_rfl) (by kernel_rfl) (by kernel_rfl) (fun _ _ _ h => h) (Or.inl ⟨by rfl, ?_⟩) (rfl) ?_
  rotate_left
  focus ((intro wq hSw; subst hSw; go_simp); try with_reducible rfl)
  try simp only [Act.put, List.getElem_toArray, List.getElem_cons_succ, List.getElem_cons_zero, List.setIfInBounds_toArray, List.set_cons_zero, List.set_cons_succ]
  refine anyT_take (i := 1) (v := ?_) rfl (by kernel_rfl) (by kernel_rfl) (by kernel_rfl) (by kernel_rfl) (fun _ _ _ h => h) (Or.inl ⟨by rfl, ?_⟩) (rfl) ?_
  rotate_left
  focus ((intro wq hSw; subst hSw; go_simp); try with_reducible rfl)
  try simp only [Act.put, List.getElem_toArray, List.getElem_cons_succ, List.getElem_cons_zero, List.setIfInBounds_toArray, List.set_cons_zero, List.set_cons_succ]
  refine anyT_take (i := 2) (v := ?_) rfl (by kernel_rfl) (by kernel_rfl) (by kernel_rfl) (by kernel_rfl) (fun _ _ _ h => h) (Or.inl ⟨by rfl, ?_⟩) (rfl) ?_
  rotate_left
  focus ((intro wq hSw; subst hSw; go_simp); try with_reducible rfl)
  try simp only [Act.put, List.getElem_toArray, List.getElem_cons_succ, List.getElem_cons_zero, List.setIfInBounds_toArray, List.set_cons_zero, List.set_cons_succ]
  refine anyT_take (i := 3) (v := ?_) rfl (by kernel_rfl) (by kernel_rfl) (by kernel_rfl) (by kernel_rfl) (fun _ _ _ h => h) (Or.inl ⟨by rfl, ?_⟩) (rfl) ?_
  rotate_left
  focus ((intro wq hSw; subst hSw; go_simp); try with_reducible rfl)
  try simp only [Act.put, List.getElem_toArray, List.getElem_cons_succ, List.getElem_cons_zero, List.setIfInBounds_toArray, List.set_cons_zero, List.set_cons_succ]
  refine anyT_take (i := 4) (v := ?_) rfl (by kernel_rfl) (by kernel_rfl) (by kernel_rfl) (by kernel_rfl) (fun _ _ _ h => h) (Or.inl ⟨by rfl, ?_⟩) (rfl) ?_
  rotate_left
  focus ((intro wq hSw; subst hSw; go_simp); try with_reducible rfl)
  try simp only [Act.put, List.getElem_toArray, List.getElem_cons_succ, List.getElem_cons_zero, List.setIfInBounds_toArray, List.set_cons_zero, List.set_cons_succ]
  refine anyT_take (i := 5) (v := ?_) rfl (by kernel_rfl) (by kernel_rfl) (by kernel_rfl) (by kernel_rfl) (fun _ _ _ h => h) (Or.inl ⟨by rfl, ?_⟩) (rfl) ?_
  rotate_left
  focus ((intro wq hSw; subst hSw; go_simp); try with_reducible rfl)
  try simp only [Act.put, List.getElem_toArray, List.getElem_cons_succ, List.getElem_cons_zero, List.setIfInBounds_toArray, List.set_cons_zero, List.set_cons_succ]
  refine anyT_take (i := 6) (v := ?_) rfl (by kernel_rfl) (by kernel_rfl) (by kernel_rfl) (by kernel_rfl) (fun _ _ _ h => h) (Or.inl ⟨by rfl, ?_⟩) (rfl) ?_
  rotate_left
  focus ((intro wq hSw; subst hSw; go_simp); try with_reducible rfl)
  try simp only [Act.put, List.getElem_toArray, List.getElem_cons_succ, List.getElem_cons_zero, List.setIfInBounds_toArray, List.set_cons_zero, List.set_cons_succ]
  refine anyT_take (i := 7) (v := ?_) rfl (by kernel_rfl) (by kernel_rfl) (by kernel_rfl) (by kernel_rfl) (fun _ _ _ h => h) (Or.inl ⟨by rfl, ?_⟩) (rfl) ?_
  rotate_left
  focus ((intro wq hSw; subst hSw; go_simp); try with_reducible rfl)
  try simp only [Act.put, List.getElem_toArray, List.getElem_cons_succ, List.getElem_cons_zero, List.setIfInBounds_toArray, List.set_cons_zero, List.set_cons_succ]
  refine anyT_one (i := 8) (by kernel_rfl) rfl (fun K hK => ?_)
  go_simp
  refine (HMU.out _).mono ?_
  rintro y wk ⟨rfl, rfl⟩
  go_simp
  refine hK.out _ _ (fun _ => rfl) ?_
  clear hK K
  try simp only [Act.put, List.getElem_toArray, List.getElem_cons_succ, List.getElem_cons_zero, List.setIfInBounds_toArray, List.set_cons_zero, List.set_cons_succ]
  refine anyT_done (by kernel_rfl) ?_ _
  go_wp2_with fail
  have S0 : Below w.heap.size w w.drew.drew := ((Below.refl _ _).drew).drew
  refine region_T (S := fun wx => Below w.heap.size w wx) [8, 9] (by kernel_rfl) S0 (fun _ => ?_)
  refine anyT_take (i := 0) (v := ?_) rfl (by kernel_rfl) (by kernel_rfl) (by kernel_rfl) (by kernel_rfl) (fun _ _ _ h => h) (Or.inl ⟨by rfl, ?_⟩) (S0) ?_
  rotate_left
  focus ((intro wq hSw; have z1 := (Same.of_below hSw).cell kq; have z2 := (Same.of_below hSw).cell c1; have z3 := (Same.of_below hSw).cell kb; have z4 := (Same.of_below hSw).cell kp; go_simp); try with_reducible rfl)
  try simp only [Act.put, List.getElem_toArray, List.getElem_cons_succ, List.getElem_cons_zero, List.setIfInBounds_toArray, List.set_cons_zero, List.set_cons_succ]
  refine anyT_take (i := 1) (v := ?_) rfl (by kernel_rfl) (by kernel_rfl) (by kernel_rfl) (by kernel_rfl) (fun _ _ _ h => h) (Or.inl ⟨by rfl, ?_⟩) (S0) ?_
  rotate_left
  focus ((intro wq hSw; have z1 := (Same.of_below hSw).cell kq; have z2 := (Same.of_below hSw).cell c1; have z3 := (Same.of_below hSw).cell kb; have z4 := (Same.of_below hSw).cell kp; go_simp); try with_reducible rfl)
  try simp only [Act.put, List.getElem_toArray, List.getElem_cons_succ, List.getElem_cons_zero, List.setIfInBounds_toArray, List.set_cons_zero, List.set_cons_succ]
  refine anyT_take (i := 2) (v := ?_) rfl (by kernel_rfl) (by kernel_rfl) (by kernel_rfl) (by kernel_rfl) (fun _ _ _ h => h) (Or.inl ⟨by rfl, ?_⟩) (S0) ?_
  rotate_left
  focus ((intro wq hSw; have z1 := (Same.of_below hSw).cell kq; have z2 := (Same.of_below hSw).cell c1; have z3 := (Same.of_below hSw).cell kb; have z4 := (Same.of_below hSw).cell kp; go_simp); try with_reducible rfl)
  try simp only [Act.put, List.getElem_toArray, List.getElem_cons_succ, List.getElem_cons_zero, List.setIfInBounds_toArray, List.set_cons_zero, List.set_cons_succ]
  refine anyT_take (i := 3) (v := ?_) rfl (by kernel_rfl) (by kernel_rfl) (by kernel_rfl) (by kernel_rfl) (fun _ _ _ h => h) (Or.inl ⟨by rfl, ?_⟩) (S0) ?_
  rotate_left
  focus ((intro wq hSw; have z1 := (Same.of_below hSw).cell kq; have z2 := (Same.of_below hSw).cell c1; have z3 := (Same.of_below hSw).cell kb; have z4 := (Same.of_below hSw).cell kp; go_simp); try with_reducible rfl)
  try simp only [Act.put, List.getElem_toArray, List.getElem_cons_succ, List.getElem_cons_zero, List.setIfInBounds_toArray, List.set_cons_zero, List.set_cons_succ]
  refine anyT_take (i := 4) (v := ?_) rfl (by kernel_rfl) (by kernel_rfl) (by kernel_rfl) (by kernel_rfl) (fun _ _ _ h => h) (Or.inl ⟨by rfl, ?_⟩) (S0) ?_
  rotate_left
  focus ((intro wq hSw; have z1 := (Same.of_below hSw).cell kq; have z2 := (Same.of_below hSw).cell c1; have z3 := (Same.of_below hSw).cell kb; have z4 := (Same.of_below hSw).cell kp; go_simp); try with_reducible rfl)
  try simp only [Act.put, List.getElem_toArray, List.getElem_cons_succ, List.getElem_cons_zero, List.setIfInBounds_toArray, List.set_cons_zero, List.set_cons_succ]
  refine anyT_take (i := 5) (v := ?_) rfl (by kernel_rfl) (by kernel_rfl) (by kernel_rfl) (by kernel_rfl) (fun _ _ _ h => h) (Or.inl ⟨by rfl, ?_⟩) (S0) ?_
  rotate_left
  focus ((intro wq hSw; have z1 := (Same.of_below hSw).cell kq; have z2 := (Same.of_below hSw).cell c1; have z3 := (Same.of_below hSw).cell kb; have z4 := (Same.of_below hSw).cell kp; go_simp); try with_reducible rfl)
  try simp only [Act.put, List.getElem_toArray, List.getElem_cons_succ, List.getElem_cons_zero, List.setIfInBounds_toArray, List.set_cons_zero, List.set_cons_succ]
  refine anyT_take (i := 6) (v := ?_) rfl (by kernel_rfl) (by kernel_rfl) (by kernel_rfl) (by kernel_rfl) (fun _ _ _ h => h) (Or.inl ⟨by rfl, ?_⟩) (S0) ?_
  rotate_left
  focus ((intro wq hSw; have z1 := (Same.of_below hSw).cell kq; have z2 := (Same.of_below hSw).cell c1; have z3 := (Same.of_below hSw).cell kb; have z4 := (Same.of_below hSw).cell kp; go_simp); try with_reducible rfl)
  try simp only [Act.put, List.getElem_toArray, List.getElem_cons_succ, List.getElem_cons_zero, List.setIfInBounds_toArray, List.set_cons_zero, List.set_cons_succ]
  refine anyT_one (i := 7) (by kernel_rfl) rfl (fun K hK => ?_)
  go_simp
  refine (HRND.out _ (HTOP.out.drew).drew).mono ?_
  rintro y W4 ⟨P2, P3, rfl, hp2, hp3, k2, k3, hb4⟩
  have hS4 : Below w.heap.size w W4 := Below.then S0 (Nat.le_refl _) hb4
  have hw69 := HWR.out W4 P2 P3 hS4 hp2 hp3 k2 k3
  rw [HVA.out] at hw69
  go_simp
  refine hK.out _ _ (fun _ => hS4) ?_
  clear hK K
  try simp only [Act.put, List.getElem_toArray, List.getElem_cons_succ, List.getElem_cons_zero, List.setIfInBounds_toArray, List.set_cons_zero, List.set_cons_succ]
  refine anyT_one (i := 8) (by kernel_rfl) rfl (fun K hK => ?_)
  go_simp
  refine hw69.mono ?_
  rintro y W5 ⟨rfl, hds, hkp⟩
  have HDS := Lib.hid hds
  have HKP := Lib.hid hkp
  clear hds hkp hw69
  go_simp
  refine hK.out _ _ (fun h => by cases h) ?_
  clear hK K
  try simp only [Act.put, List.getElem_toArray, List.getElem_cons_succ, List.getElem_cons_zero, List.setIfInBounds_toArray, List.set_cons_zero, List.set_cons_succ]
  refine anyT_one (i := 9) (by kernel_rfl) rfl (fun K hK => ?_)
  go_simp
  refine hK.out _ _ (fun h => by cases h) ?_
  clear hK K
  try simp only [Act.put, List.getElem_toArray, List.getElem_cons_succ, List.getElem_cons_zero, List.setIfInBounds_toArray, List.set_cons_zero, List.set_cons_succ]
  refine anyT_done (by kernel_rfl) ?_ _
  go_wp2_with fail
  go_ret
  exact ⟨_, rfl, ⟨rfl, HDS.out⟩, HKP.out⟩
end Go.Proofs.Ytegomicpolnpoaa
