/- A dither's Encode, the whole, where it answers; a new dither. -/
import Derived.Test.YtegomicpolnpoaaXC
namespace Go.Proofs.Ytegomicpolnpoaa
open Go.RowKit Go.Deep Go.Shelf

set_option maxHeartbeats 1000000 in
set_option maxRecDepth 100000 in
theorem dencode_yes {e : Nat} (h1 : 1 ≤ e) (h4 : e ≤ 4) (D E n0 Bd : Nat) (sh p : Bool) (s : Int × List Int) (m : List (List Int)) (v : Value) (w : World) (hS : DS D E m.length e sh s w)
    (hM : ∀ X, Below n0 w X → MatIn X m v) (hv : validB m = true) (hD : n0 ≤ D ∧ D < Bd) (hE : n0 ≤ E ∧ E < Bd) (hBd : Bd ≤ w.heap.size) :
    Calls Try.prog 38 #[.pointer (some ⟨D, 0, none⟩), .bool p, v] w fun y w' => y = .returned (.tuple #[.string (dBytes e sh p m s), .int .i64 0]) ∧ DS D E m.length e sh (dEnd e sh m s) w' ∧ KpB n0 Bd w w' := by
  have hmf := makes
  obtain ⟨a, ca, rfl, _, _, _⟩ := id (hM w (Below.refl _ _))
  obtain ⟨W3, hW3⟩ : ∃ W3, ((w.alloc (.cells #[.pointer (some ⟨D, 0, none⟩)] 49)).alloc (.cells #[.bool p] 4)).alloc (.cells #[.slice a m.length ca] 30) = W3 := ⟨_, rfl⟩
  have hbel : Below w.heap.size w W3 := by rw [← hW3]; exact (((Below.refl _ w).alloc (Nat.le_refl _) _).alloc (by simp) _).alloc (by simp; omega) _
  have kq : ∀ Z, (W3.alloc Z).cell? ⟨w.heap.size, 0, none⟩ = some (.pointer (some ⟨D, 0, none⟩)) := fun Z => by refine (Same.alloc _ Z).cell ?_; rw [← hW3]; simp [go_sem]
  have kp : ∀ Z, (W3.alloc Z).cell? ⟨w.heap.size + 1, 0, none⟩ = some (.bool p) := fun Z => by refine (Same.alloc _ Z).cell ?_; rw [← hW3]; simp [go_sem]
  have kb : ∀ Z, (W3.alloc Z).cell? ⟨w.heap.size + 1 + 1, 0, none⟩ = some (.slice a m.length ca) := fun Z => by refine (Same.alloc _ Z).cell ?_; rw [← hW3]; simp [go_sem]
  have hsz : W3.heap.size = w.heap.size + 3 := by rw [← hW3]; simp
  have hbz : ∀ Z, Below w.heap.size w (W3.alloc Z) := fun Z => hbel.alloc (by omega) Z
  have hS3 : ∀ Z, DS D E m.length e sh s (W3.alloc Z) := fun Z => hS.keep ((hbz Z).block D hS.top.lt) ((hbz Z).block E hS.row.lt)
  have hf := fitted66_kp 91 #[at0 w.heap.size, at0 (w.heap.size + 1 + 1), at0 (w.heap.size + 1)] W3 n0 Bd (by omega) (by omega) (fun u w' => u = .string (dBytes e sh p m s) ∧ DS D E m.length e sh (dEnd e sh m s) w')
    (fun u w1 w2 hk hz h => ⟨h.1, h.2.keep (hk D (by omega) h.2.top.lt) (hk E (by omega) h.2.row.lt)⟩) (enters_of Try.func91 (by kernel_rfl) rfl _)
    (denc1_yes h1 h4 D E n0 Bd sh p s m _ _ _ _ _ (hS3 _) (fun X hX => hM X (((hbz _).mono (by omega)).trans hX)) hv hD hE (by simp; omega) (kq _) (kb _) (kp _))
  have hkp3 : KpB n0 Bd w W3 := KpB.of_below (by omega) hbel
  subst hW3
  have HF := Lib.hid hf
  have HK := Lib.hid hkp3
  clear hbel kq kp kb hsz hbz hS3 hf hkp3 hM hS
  go_enter Try.func38, Try.ntmps38
  go_wp2_with (go_at_call 66; (with_reducible refine HF.out.mono ?_); rintro y w1 ⟨u, rfl, ⟨rfl, hds⟩, hk⟩; have HDS := Lib.hid hds; have HKP := Lib.hid hk; clear hds hk)
  go_ret2
  exact ⟨rfl, HDS.out, HK.out.trans HKP.out⟩

set_option maxHeartbeats 1000000 in
set_option maxRecDepth 100000 in
theorem fitted89_new (f : FuncId) (caps : Array Value) (w : World) (Φ : Value → World → Prop) (hΦ : ∀ u w1 w2, (∀ k, k ≠ w.heap.size → k < w1.heap.size → w2.heap[k]? = w1.heap[k]?) → Φ u w1 → Φ u w2)
    (hcf : ∀ w : World, (callFunc f caps).run Try.prog w = .ok (.enter f caps) w)
    (hc : Calls Try.prog f caps (w.alloc (.cells #[.int .i64 0] 22)) (Gives Φ (w.alloc (.cells #[.int .i64 0] 22)))) :
    Calls Try.prog 89 #[.func (.func f) #[] caps] w (GivesOk Φ 0 w) := by
  have hmf : ∀ (fn : Fn) (first cap : Array Value) (w : World), (Instr.makeFunc fn first cap).run Try.prog w = .ok (.func fn first cap) w := fun _ _ _ _ => rfl
  go_enter_defers Try.func89, Try.ntmps89
  go_wp2_with fail
  refine hc.mono ?_
  rintro e w1 ⟨u, rfl, hu, hb⟩
  have hlt : w.heap.size < w1.heap.size := by have := hb.size; simp at this; omega
  have k1 : w1.cell? ⟨w.heap.size, 0, none⟩ = some (.int .i64 0) := by rw [hb.cell (by simp)]; simp [go_sem]
  have k2 : w1.frozen? ⟨w.heap.size, 0, none⟩ = false := by rw [hb.frozen (by simp)]; simp [go_sem]
  have HB := Lib.hid hb
  have HU := Lib.hid hu
  clear hb hu hc
  go_wp2_with fail
  refine leaves_cons (f := 117) (args := #[.pointer (some ⟨w.heap.size, 0, none⟩)]) (by simp) (by simp [go_sem]) ?_
  refine (catch117_idle ⟨w.heap.size, 0, none⟩ _).mono ?_
  rintro e u' w'' ⟨rfl, rfl, rfl⟩
  have k3 : ((w1.setCell ⟨w.heap.size, 0, none⟩ (.int .i64 0)).alloc (.cells #[.int .i64 0] 116)).cell? ⟨w.heap.size, 0, none⟩ = some (.int .i64 0) :=
    (Same.alloc _ _).cell (World.cell?_setCell_same _ _ _ k1)
  have hs : ∀ k, k ≠ w.heap.size → k < w1.heap.size → ((w1.setCell ⟨w.heap.size, 0, none⟩ (.int .i64 0)).alloc (.cells #[.int .i64 0] 116)).heap[k]? = w1.heap[k]? := fun k hk hlt2 =>
    (Below.heap_alloc _ _ k (by simpa using hlt2)).trans (blk_setCell_other _ _ _ _ hk)
  have hbel : Below w.heap.size w ((w1.setCell ⟨w.heap.size, 0, none⟩ (.int .i64 0)).alloc (.cells #[.int .i64 0] 116)) :=
    ((((Below.refl _ w).alloc (Nat.le_refl _) _).trans (HB.out.mono (by simp))).setCell (Nat.le_refl _) _).alloc (by simp; omega) _
  have hfin := hΦ _ _ _ hs HU.out
  simp [Leaves, settle, results, Try.results89, go_sem, k3]
  exact ⟨u, rfl, hfin, hbel⟩

/-- A new dither, in new memory. -/
def NewD (B r e : Nat) (sh : Bool) (seed : Int) (v : Value) (w : World) : Prop := ∃ D E, v = .pointer (some ⟨D, 0, none⟩) ∧ B ≤ D ∧ B ≤ E ∧ DS D E r e sh (seed, List.replicate r 0) w
set_option maxHeartbeats 1000000 in
set_option maxRecDepth 100000 in
theorem newD1_yes {e : Nat} (h1 : 1 ≤ e) (h4 : e ≤ 4) (r : Nat) (hr1 : 1 ≤ r) (hr8 : r ≤ 8) (sh : Bool) (seed : Int) (hs1 : 1 ≤ seed) (hs2 : seed < 2147483648) (Be Bs Bc Bh : Nat) (w : World)
    (ke : w.cell? ⟨Be, 0, none⟩ = some (.int .i64 e)) (ks : w.cell? ⟨Bs, 0, none⟩ = some (.int .i64 seed)) (kc : w.cell? ⟨Bc, 0, none⟩ = some (.int .i64 r)) (kh : w.cell? ⟨Bh, 0, none⟩ = some (.bool sh)) :
    Calls Try.prog 90 #[at0 Be, at0 Bs, at0 Bc, at0 Bh] w (Gives (NewD w.heap.size r e sh seed) w) := by
  have hcd := coder_any h1 (show e ≤ 8 by omega) w
  obtain ⟨bm, hbm, hbe, hbits⟩ := isCd h1 (show e ≤ 8 by omega)
  have hbb : bitsN e = 8 ∨ bitsN e = 16 := by rcases step_shl h1 h4 with h | h; exact .inl h.1; exact .inr h.1
  have h62 := fun X => ch_any r X
  simp only [show encB (r : Int) = true by simp [encB]; omega] at h62
  have HMU := Lib.hid must_yes
  have hmk := run_make_row' (P := Try.prog) 34 3 (.int .i64 0) 8 Try.underlying34 Try.info3 rfl .i64 .i64 r (by omega) (by omega)
  have hbits' : ∀ X, Calls Try.prog bm #[cdX e] X fun y w' => y = .returned (.int .i64 (bitsN e)) ∧ Below X.heap.size X w' := hbits
  have hcdv : cdv e = .iface (cdT e) (cdX e) := rfl
  have HDS0 : Hid (∀ (X : World) (D E : Nat), X.rowIs D 107 4 (fun j => if j = 0 then .int .i64 seed else if j = 1 then .iface (cdT e) (cdX e) else if j = 2 then .bool sh else .slice (some ⟨E, 0, none⟩) r r) → X.rowIs E 3 r (fun _ => .int .i64 0) → DS D E r e sh (seed, List.replicate r 0) X) := Lib.hid fun X D E a b =>
    ⟨a, b.congr (fun i hi => by simp [List.getD, hi]), ⟨by simp only; omega, hs2⟩, by simp, fun j hj => by
      have : (List.replicate r (0 : Int)).getD j 0 = 0 := by simp [List.getD, hj]
      simp only [this]
      have := stepN_two e
      omega⟩
  rw [hcdv] at hcd
  generalize cdT e = T at *
  generalize cdX e = Y at *
  have H62 := Lib.hid h62
  have HB := Lib.hid hbits'
  clear hbits hbits' h62
  rcases hbb with hbb | hbb
  all_goals
    rw [hbb] at HB
    go_enter Try.func90, Try.ntmps90
    go_wp2_with (first
      | (go_at_call 51; (with_reducible refine hcd.mono ?_); rintro y w1 ⟨rfl, rfl⟩)
      | (go_at_call 62; (with_reducible refine (H62.out _).mono ?_); rintro y w1 ⟨rfl, rfl⟩)
      | (go_at_call 53; (with_reducible refine (HMU.out _ _).mono ?_); rintro y w1 ⟨rfl, rfl⟩))
    refine (HB.out _).mono ?_
    rintro y w1 ⟨rfl, hb1⟩
    have ks1 := (Same.of_below hb1).cell ks
    have kc1 := (Same.of_below hb1).cell kc
    have kh1 := (Same.of_below hb1).cell kh
    have HB1 := Lib.hid hb1
    clear hb1
    go_wp2_with (go_at_call 53; (with_reducible refine (HMU.out _ _).mono ?_); rintro y w1 ⟨rfl, rfl⟩)
    refine region_T (S := fun wx => wx.cell? ⟨Bs, 0, none⟩ = some (.int .i64 seed) ∧ wx.cell? ⟨Bc, 0, none⟩ = some (.int .i64 r) ∧ wx.cell? ⟨Bh, 0, none⟩ = some (.bool sh)) [] (by kernel_rfl) ⟨ks1, kc1, kh1⟩ (fun _ => ?_)
    have S0 : w1.drew.cell? ⟨Bs, 0, none⟩ = some (.int .i64 seed) ∧ w1.drew.cell? ⟨Bc, 0, none⟩ = some (.int .i64 r) ∧ w1.drew.cell? ⟨Bh, 0, none⟩ = some (.bool sh) := ⟨ks1, kc1, kh1⟩
    refine anyT_take (i := 0) (v := ?_) rfl (by kernel_rfl) (by kernel_rfl) (by kernel_rfl) (by kernel_rfl) (fun _ _ _ h => h) (Or.inl ⟨by rfl, ?_⟩) (S0) ?_
    rotate_left
    focus ((intro wq hSw; obtain ⟨z1, z2, z3⟩ := hSw; go_simp); try with_reducible rfl)
    try simp only [Act.put, List.getElem_toArray, List.getElem_cons_succ, List.getElem_cons_zero, List.setIfInBounds_toArray, List.set_cons_zero, List.set_cons_succ]
    refine anyT_take (i := 1) (v := ?_) rfl (by kernel_rfl) (by kernel_rfl) (by kernel_rfl) (by kernel_rfl) (fun _ _ _ h => h) (Or.inl ⟨by rfl, ?_⟩) (S0) ?_
    rotate_left
    focus ((intro wq hSw; obtain ⟨z1, z2, z3⟩ := hSw; go_simp); try with_reducible rfl)
    try simp only [Act.put, List.getElem_toArray, List.getElem_cons_succ, List.getElem_cons_zero, List.setIfInBounds_toArray, List.set_cons_zero, List.set_cons_succ]
    refine anyT_take (i := 2) (v := ?_) rfl (by kernel_rfl) (by kernel_rfl) (by kernel_rfl) (by kernel_rfl) (fun _ _ _ h => h) (Or.inl ⟨by rfl, ?_⟩) (S0) ?_
    rotate_left
    focus ((intro wq hSw; obtain ⟨z1, z2, z3⟩ := hSw; go_simp); try with_reducible rfl)
    try simp only [Act.put, List.getElem_toArray, List.getElem_cons_succ, List.getElem_cons_zero, List.setIfInBounds_toArray, List.set_cons_zero, List.set_cons_succ]
    refine anyT_take (i := 3) (v := ?_) rfl (by kernel_rfl) (by kernel_rfl) (by kernel_rfl) (by kernel_rfl) (fun _ _ _ h => h) (Or.inl ⟨by rfl, ?_⟩) (S0) ?_
    rotate_left
    focus ((intro wq hSw; obtain ⟨z1, z2, z3⟩ := hSw; go_simp); try with_reducible rfl)
    try simp only [Act.put, List.getElem_toArray, List.getElem_cons_succ, List.getElem_cons_zero, List.setIfInBounds_toArray, List.set_cons_zero, List.set_cons_succ]
    refine anyT_take (i := 4) (v := ?_) rfl (by kernel_rfl) (by kernel_rfl) (by kernel_rfl) (by kernel_rfl) (fun _ _ _ h => h) (Or.inl ⟨by rfl, ?_⟩) (S0) ?_
    rotate_left
    focus ((intro wq hSw; obtain ⟨z1, z2, z3⟩ := hSw; go_simp); try with_reducible rfl)
    try simp only [Act.put, List.getElem_toArray, List.getElem_cons_succ, List.getElem_cons_zero, List.setIfInBounds_toArray, List.set_cons_zero, List.set_cons_succ]
    refine anyT_one (i := 5) (by kernel_rfl) rfl (fun K hK => ?_)
    go_simp
    have S1 : (w1.drew.alloc (.cells (madeCells #[.int .i64 0] r) 3)).cell? ⟨Bs, 0, none⟩ = some (.int .i64 seed) ∧ (w1.drew.alloc (.cells (madeCells #[.int .i64 0] r) 3)).cell? ⟨Bc, 0, none⟩ = some (.int .i64 r) ∧ (w1.drew.alloc (.cells (madeCells #[.int .i64 0] r) 3)).cell? ⟨Bh, 0, none⟩ = some (.bool sh) := ⟨(Same.alloc _ _).cell ks1, (Same.alloc _ _).cell kc1, (Same.alloc _ _).cell kh1⟩
    refine hK.out _ _ (fun _ => S1) ?_
    clear hK K
    try simp only [Act.put, List.getElem_toArray, List.getElem_cons_succ, List.getElem_cons_zero, List.setIfInBounds_toArray, List.set_cons_zero, List.set_cons_succ]
    refine anyT_take (i := 6) (v := ?_) rfl (by kernel_rfl) (by kernel_rfl) (by kernel_rfl) (by kernel_rfl) (fun _ _ _ h => h) (Or.inl ⟨by rfl, ?_⟩) (S1) ?_
    rotate_left
    focus ((intro wq hSw; obtain ⟨z1, z2, z3⟩ := hSw; go_simp); try with_reducible rfl)
    try simp only [Act.put, List.getElem_toArray, List.getElem_cons_succ, List.getElem_cons_zero, List.setIfInBounds_toArray, List.set_cons_zero, List.set_cons_succ]
    refine anyT_one (i := 7) (by kernel_rfl) rfl (fun K hK => ?_)
    go_simp
    refine hK.out _ _ (fun _ => ⟨(Same.alloc _ _).cell S1.1, (Same.alloc _ _).cell S1.2.1, (Same.alloc _ _).cell S1.2.2⟩) ?_
    clear hK K
    try simp only [Act.put, List.getElem_toArray, List.getElem_cons_succ, List.getElem_cons_zero, List.setIfInBounds_toArray, List.set_cons_zero, List.set_cons_succ]
    refine anyT_take (i := 8) (v := ?_) rfl (by kernel_rfl) (by kernel_rfl) (by kernel_rfl) (by kernel_rfl) (fun _ _ _ h => h) (Or.inl ⟨by rfl, ?_⟩) (⟨(Same.alloc _ _).cell S1.1, (Same.alloc _ _).cell S1.2.1, (Same.alloc _ _).cell S1.2.2⟩) ?_
    rotate_left
    focus ((intro wq hSw; obtain ⟨z1, z2, z3⟩ := hSw; go_simp); try with_reducible rfl)
    try simp only [Act.put, List.getElem_toArray, List.getElem_cons_succ, List.getElem_cons_zero, List.setIfInBounds_toArray, List.set_cons_zero, List.set_cons_succ]
    refine anyT_done (by kernel_rfl) ?_ _
    have hz1 := HB1.out.size
    have hrD : ((w1.alloc (.cells (madeCells #[.int .i64 0] r) 3)).alloc (.cells #[.int .i64 seed, .iface T Y, .bool sh, .slice (some ⟨w1.heap.size, 0, none⟩) r r] 107)).rowIs (w1.heap.size + 1) 107 4 (fun j => if j = 0 then .int .i64 seed else if j = 1 then .iface T Y else if j = 2 then .bool sh else .slice (some ⟨w1.heap.size, 0, none⟩) r r) := by
      have h := World.rowIs_alloc (w1.alloc (.cells (madeCells #[.int .i64 0] r) 3)) #[.int .i64 seed, .iface T Y, .bool sh, .slice (some ⟨w1.heap.size, 0, none⟩) r r] 107 (fun j => if j = 0 then .int .i64 seed else if j = 1 then .iface T Y else if j = 2 then .bool sh else .slice (some ⟨w1.heap.size, 0, none⟩) r r) (fun i hi => by
        obtain rfl | rfl | rfl | rfl : i = 0 ∨ i = 1 ∨ i = 2 ∨ i = 3 := by simp at hi; omega
        all_goals rfl)
      rw [World.size_alloc] at h
      exact h
    have hrE := (World.rowIs_made w1 (.int .i64 0) r 3).alloc (.cells #[.int .i64 seed, .iface T Y, .bool sh, .slice (some ⟨w1.heap.size, 0, none⟩) r r] 107)
    have HDD := Lib.hid (HDS0.out _ _ _ hrD.drew hrE.drew)
    have HBB := Lib.hid (((HB1.out.alloc hz1 (.cells (madeCells #[.int .i64 0] r) 3)).alloc (by simp; omega) (.cells #[.int .i64 seed, .iface T Y, .bool sh, .slice (some ⟨w1.heap.size, 0, none⟩) r r] 107)).drew)
    clear hrD hrE
    go_wp2_with fail
    go_ret
    exact ⟨_, rfl, ⟨w1.heap.size + 1, w1.heap.size, rfl, by omega, by omega, HDD.out⟩, HBB.out⟩
end Go.Proofs.Ytegomicpolnpoaa
namespace Go.Proofs.Ytegomicpolnpoaa
open Go.RowKit Go.Deep Go.Shelf

set_option maxRecDepth 100000 in
theorem newD1_enc {n : Int} (hn : encB n = false) (Be Bs Bc Bh : Nat) (w : World) (ke : w.cell? ⟨Be, 0, none⟩ = some (.int .i64 n)) : Calls Try.prog 90 #[at0 Be, at0 Bs, at0 Bc, at0 Bh] w (LeavesX 7 w) := by
  have hcd := coder_no hn w
  clear hn
  go_enter Try.func90, Try.ntmps90
  go_wp2_with (go_at_call 51; (with_reducible refine hcd.mono ?_); rintro y w1 ⟨rfl, rfl⟩)
  exact ⟨rfl, rfl, Below.refl _ _⟩
set_option maxRecDepth 100000 in
theorem newD1_seed {e : Nat} (h1 : 1 ≤ e) (h8 : e ≤ 8) (seed : Int) (hs : ¬ (1 ≤ seed ∧ seed < 2147483648)) (Be Bs Bc Bh : Nat) (w : World) (ke : w.cell? ⟨Be, 0, none⟩ = some (.int .i64 e)) (ks : w.cell? ⟨Bs, 0, none⟩ = some (.int .i64 seed)) :
    Calls Try.prog 90 #[at0 Be, at0 Bs, at0 Bc, at0 Bh] w (LeavesX 7 w) := by
  have hcd := coder_any h1 h8 w
  rw [show cdv e = .iface (cdT e) (cdX e) from rfl] at hcd
  have hmu := must_no 7 w
  generalize cdT e = T at *
  generalize cdX e = Y at *
  by_cases q : 1 ≤ seed
  · have q2 : ¬ seed < 2147483648 := fun h => hs ⟨q, h⟩
    have q3 : decide (seed < 2147483648) = false := decide_eq_false q2
    clear hs
    go_enter Try.func90, Try.ntmps90
    go_wp2_with (first
      | (go_at_call 51; (with_reducible refine hcd.mono ?_); rintro y w1 ⟨rfl, rfl⟩)
      | (go_at_call 53; (with_reducible refine hmu.mono ?_); rintro y w1 ⟨rfl, rfl⟩))
    exact ⟨rfl, rfl, Below.refl _ _⟩
  · clear hs
    go_enter Try.func90, Try.ntmps90
    go_wp2_with (first
      | (go_at_call 51; (with_reducible refine hcd.mono ?_); rintro y w1 ⟨rfl, rfl⟩)
      | (go_at_call 53; (with_reducible refine hmu.mono ?_); rintro y w1 ⟨rfl, rfl⟩))
    exact ⟨rfl, rfl, Below.refl _ _⟩
set_option maxRecDepth 100000 in
theorem newD1_chan {e : Nat} (h1 : 1 ≤ e) (h8 : e ≤ 8) (seed : Int) (hs1 : 1 ≤ seed) (hs2 : seed < 2147483648) (c : Int) (hc : encB c = false) (Be Bs Bc Bh : Nat) (w : World) (ke : w.cell? ⟨Be, 0, none⟩ = some (.int .i64 e)) (ks : w.cell? ⟨Bs, 0, none⟩ = some (.int .i64 seed)) (kc : w.cell? ⟨Bc, 0, none⟩ = some (.int .i64 c)) :
    Calls Try.prog 90 #[at0 Be, at0 Bs, at0 Bc, at0 Bh] w (LeavesX 7 w) := by
  have hcd := coder_any h1 h8 w
  rw [show cdv e = .iface (cdT e) (cdX e) from rfl] at hcd
  have hch := ch_any c w
  rw [hc] at hch
  have hmy := must_yes 7 w
  have hmn := must_no 7 w
  generalize cdT e = T at *
  generalize cdX e = Y at *
  clear hc
  go_enter Try.func90, Try.ntmps90
  go_wp2_with (first
      | (go_at_call 51; (with_reducible refine hcd.mono ?_); rintro y w1 ⟨rfl, rfl⟩)
      | (go_at_call 62; (with_reducible refine hch.mono ?_); rintro y w1 ⟨rfl, rfl⟩)
      | (go_at_call 53; (with_reducible refine hmy.mono ?_); rintro y w1 ⟨rfl, rfl⟩)
      | (go_at_call 53; (with_reducible refine hmn.mono ?_); rintro y w1 ⟨rfl, rfl⟩))
  exact ⟨rfl, rfl, Below.refl _ _⟩
set_option maxRecDepth 100000 in
theorem newD1_kind {e : Nat} (h1 : 4 < e) (h8 : e ≤ 8) (seed : Int) (hs1 : 1 ≤ seed) (hs2 : seed < 2147483648) (c : Int) (hc : encB c = true) (Be Bs Bc Bh : Nat) (w : World) (ke : w.cell? ⟨Be, 0, none⟩ = some (.int .i64 e)) (ks : w.cell? ⟨Bs, 0, none⟩ = some (.int .i64 seed)) (kc : w.cell? ⟨Bc, 0, none⟩ = some (.int .i64 c)) :
    Calls Try.prog 90 #[at0 Be, at0 Bs, at0 Bc, at0 Bh] w (LeavesX 10 w) := by
  have hcd := coder_any (show 1 ≤ e by omega) h8 w
  rw [show cdv e = .iface (cdT e) (cdX e) from rfl] at hcd
  obtain ⟨bm, hbm, hbe, hbits⟩ := isCd (show 1 ≤ e by omega) h8
  have hch := ch_any c w
  rw [hc] at hch
  have hmy := must_yes 7 w
  have HMN := Lib.hid (must_no 10)
  have hbb : ∃ k : Int, (bitsN e : Int) = k ∧ 24 ≤ k ∧ k ≤ 32 := ⟨_, rfl, by unfold bitsN; omega, by unfold bitsN; omega⟩
  obtain ⟨k, hk, hk1, hk2⟩ := hbb
  rw [hk] at hbits
  have hd : decide (k < 24) = false := decide_eq_false (by omega)
  generalize cdT e = T at *
  generalize cdX e = Y at *
  have HB := Lib.hid hbits
  clear hc hbits hk
  go_enter Try.func90, Try.ntmps90
  go_wp2_with (first
      | (go_at_call 51; (with_reducible refine hcd.mono ?_); rintro y w1 ⟨rfl, rfl⟩)
      | (go_at_call 62; (with_reducible refine hch.mono ?_); rintro y w1 ⟨rfl, rfl⟩)
      | (go_at_call 53; (with_reducible refine hmy.mono ?_); rintro y w1 ⟨rfl, rfl⟩))
  refine (HB.out _).mono ?_
  rintro y w1 ⟨rfl, hb1⟩
  have HB1 := Lib.hid hb1
  clear hb1
  go_wp2_with (go_at_call 53; (with_reducible refine (HMN.out _).mono ?_); rintro y w1 ⟨rfl, rfl⟩)
  exact ⟨rfl, rfl, HB1.out⟩

/-- What NewDither answers. -/
def dithE (n seed c : Int) : Int := if encB n = false then 7 else if ¬ (1 ≤ seed ∧ seed < 2147483648) then 7 else if encB c = false then 7 else if 4 < n then 10 else 0
def DRes (B : Nat) (n seed c : Int) (sh : Bool) (u : Value) (w' : World) : Prop := (dithE n seed c = 0 → NewD B c.toNat n.toNat sh seed u w') ∧ (dithE n seed c ≠ 0 → u = .pointer none)
def DAns (w : World) (n seed c : Int) (sh : Bool) (e : Ending) (w' : World) : Prop := ∃ u, e = .returned (.tuple #[u, .int .i64 (dithE n seed c)]) ∧ DRes w.heap.size n seed c sh u w' ∧ Below w.heap.size w w'
set_option maxHeartbeats 1000000 in
set_option maxRecDepth 100000 in
theorem newD_any (n seed c : Int) (sh : Bool) (w : World) : Calls Try.prog 36 #[.int .i64 n, .int .i64 seed, .int .i64 c, .bool sh] w (DAns w n seed c sh) := by
  have hmf := makes
  obtain ⟨W4, hW4⟩ : ∃ W4, (((w.alloc (.cells #[.int .i64 n] 3)).alloc (.cells #[.int .i64 seed] 3)).alloc (.cells #[.int .i64 c] 3)).alloc (.cells #[.bool sh] 4) = W4 := ⟨_, rfl⟩
  have hbel : Below w.heap.size w W4 := by rw [← hW4]; exact ((((Below.refl _ w).alloc (Nat.le_refl _) _).alloc (by simp) _).alloc (by simp; omega) _).alloc (by simp; omega) _
  have k0 : ∀ Z, (W4.alloc Z).cell? ⟨w.heap.size, 0, none⟩ = some (.int .i64 n) := fun Z => by refine (Same.alloc _ Z).cell ?_; rw [← hW4]; simp [go_sem]
  have k1 : ∀ Z, (W4.alloc Z).cell? ⟨w.heap.size + 1, 0, none⟩ = some (.int .i64 seed) := fun Z => by refine (Same.alloc _ Z).cell ?_; rw [← hW4]; simp [go_sem]
  have k2 : ∀ Z, (W4.alloc Z).cell? ⟨w.heap.size + 1 + 1, 0, none⟩ = some (.int .i64 c) := fun Z => by refine (Same.alloc _ Z).cell ?_; rw [← hW4]; simp [go_sem]
  have k3 : ∀ Z, (W4.alloc Z).cell? ⟨w.heap.size + 1 + 1 + 1, 0, none⟩ = some (.bool sh) := fun Z => by refine (Same.alloc _ Z).cell ?_; rw [← hW4]; simp [go_sem]
  have hsz : W4.heap.size = w.heap.size + 4 := by rw [← hW4]; simp
  have hcf : ∀ W : World, (callFunc 90 #[at0 w.heap.size, at0 (w.heap.size + 1), at0 (w.heap.size + 1 + 1), at0 (w.heap.size + 1 + 1 + 1)]).run Try.prog W = .ok (.enter 90 #[at0 w.heap.size, at0 (w.heap.size + 1), at0 (w.heap.size + 1 + 1), at0 (w.heap.size + 1 + 1 + 1)]) W := enters_of Try.func90 (by kernel_rfl) rfl _
  have hf : Calls Try.prog 89 #[.func (.func 90) #[] #[at0 w.heap.size, at0 (w.heap.size + 1), at0 (w.heap.size + 1 + 1), at0 (w.heap.size + 1 + 1 + 1)]] W4 fun e w' => ∃ u, e = .returned (.tuple #[u, .int .i64 (dithE n seed c)]) ∧ DRes w.heap.size n seed c sh u w' ∧ Below W4.heap.size W4 w' := by
    have bad : ∀ k : Int, dithE n seed c = k → k ≠ 0 → Calls Try.prog 90 #[at0 w.heap.size, at0 (w.heap.size + 1), at0 (w.heap.size + 1 + 1), at0 (w.heap.size + 1 + 1 + 1)] (W4.alloc (.cells #[.int .i64 0] 22)) (LeavesX k (W4.alloc (.cells #[.int .i64 0] 22))) → Calls Try.prog 89 #[.func (.func 90) #[] #[at0 w.heap.size, at0 (w.heap.size + 1), at0 (w.heap.size + 1 + 1), at0 (w.heap.size + 1 + 1 + 1)]] W4 fun e w' => ∃ u, e = .returned (.tuple #[u, .int .i64 (dithE n seed c)]) ∧ DRes w.heap.size n seed c sh u w' ∧ Below W4.heap.size W4 w' := fun k hk hk0 h =>
      (fitted89_no 90 _ k W4 hcf h).mono fun y w' ⟨a, b⟩ => ⟨.pointer none, by rw [hk]; exact a, ⟨fun h0 => absurd (hk ▸ h0) hk0, fun _ => rfl⟩, b⟩
    by_cases q1 : encB n = false
    · exact bad 7 (by unfold dithE; rw [if_pos q1]) (by decide) (newD1_enc q1 _ _ _ _ _ (k0 _))
    · have q1' : encB n = true := by simpa using q1
      obtain ⟨e1, e2⟩ := encB_t q1'
      obtain ⟨e, rfl⟩ : ∃ e : Nat, n = e := ⟨n.toNat, by omega⟩
      by_cases q2 : 1 ≤ seed ∧ seed < 2147483648
      · by_cases q3 : encB c = false
        · exact bad 7 (by unfold dithE; rw [if_neg q1, if_neg (by simpa using q2), if_pos q3]) (by decide) (newD1_chan (by omega) (by omega) seed q2.1 q2.2 c q3 _ _ _ _ _ (k0 _) (k1 _) (k2 _))
        · have q3' : encB c = true := by simpa using q3
          by_cases q4 : (4 : Int) < e
          · exact bad 10 (by unfold dithE; rw [if_neg q1, if_neg (by simpa using q2), if_neg q3, if_pos q4]) (by decide) (newD1_kind (by omega) (by omega) seed q2.1 q2.2 c q3' _ _ _ _ _ (k0 _) (k1 _) (k2 _))
          · have h0 : dithE e seed c = 0 := by unfold dithE; rw [if_neg q1, if_neg (by simpa using q2), if_neg q3, if_neg q4]
            obtain ⟨c1, c2⟩ := encB_t q3'
            obtain ⟨r, rfl⟩ : ∃ r : Nat, c = r := ⟨c.toNat, by omega⟩
            refine (fitted89_new 90 _ W4 (NewD (W4.alloc (.cells #[.int .i64 0] 22)).heap.size r e sh seed) (fun u w1 w2 hk ⟨D, E, a, b, c, d⟩ => ⟨D, E, a, b, c, d.keep (hk D (by simp at b; omega) d.top.lt) (hk E (by simp at c; omega) d.row.lt)⟩) hcf
              (newD1_yes (by omega) (by omega) r (by omega) (by omega) sh seed q2.1 q2.2 _ _ _ _ _ (k0 _) (k1 _) (k2 _) (k3 _))).mono ?_
            rintro y w' ⟨u, rfl, ⟨D, E, a, b, c, d⟩, hb⟩
            simp at b c
            exact ⟨u, by rw [h0], ⟨fun _ => ⟨D, E, a, by omega, by omega, by rw [Int.toNat_natCast, Int.toNat_natCast]; exact d⟩, fun h => absurd h0 h⟩, hb⟩
      · exact bad 7 (by unfold dithE; rw [if_neg q1, if_pos q2]) (by decide) (newD1_seed (by omega) (by omega) seed q2 _ _ _ _ _ (k0 _) (k1 _))
  subst hW4
  have HBL := Lib.hid hbel
  have HF := Lib.hid hf
  clear hbel k0 k1 k2 k3 hsz hcf hf
  unfold DAns
  go_enter Try.func36, Try.ntmps36
  go_wp2_with (go_at_call 89; (with_reducible refine HF.out.mono ?_); rintro y w1 ⟨u, rfl, hu, hb1⟩; have HU := Lib.hid hu; clear hu)
  go_ret2
  exact ⟨_, rfl, HU.out, HBL.out.trans (hb1.mono HBL.out.size)⟩
end Go.Proofs.Ytegomicpolnpoaa
