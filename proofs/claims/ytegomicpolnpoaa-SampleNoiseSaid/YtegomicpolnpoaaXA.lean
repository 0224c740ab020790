/- A dither: its numbers, and the level of its next sample. -/
import Derived.Test.YtegomicpolnpoaaUL
namespace Go.Proofs.Ytegomicpolnpoaa
open Go.RowKit Go.Deep Go.Shelf

/-- The next random number. -/
def nxt (l : Int) : Int := (l * 1103515245 + 12345) % 2147483648
theorem nxt_bd (l : Int) : 0 ≤ nxt l ∧ nxt l < 2147483648 := by unfold nxt; omega
theorem nxt_mul {l : Int} (h0 : 0 ≤ l) (h1 : l < 2147483648) : 0 ≤ l * 1103515245 ∧ l * 1103515245 ≤ 2369780942852710400 := by omega

set_option maxRecDepth 100000 in
theorem next_any (D k : Nat) (F : Nat → Value) (l : Int) (w : World) (hr : w.rowIs D 107 k F) (hk : 1 ≤ k) (hF : F 0 = .int .i64 l) (h0 : 0 ≤ l) (h1 : l < 2147483648) :
    Calls Try.prog 119 #[.pointer (some ⟨D, 0, none⟩)] w fun e w' => e = .returned (.int .i64 (nxt l)) ∧ w' = w.setCell ⟨D, 0, none⟩ (.int .i64 (nxt l)) := by
  have hc := hr.cell (i := 0) (by omega)
  rw [hF] at hc
  have hz := hr.frozen 0
  have hm := nxt_mul h0 h1
  have hn := nxt_bd l
  have hc2 : (w.setCell ⟨D, 0, none⟩ (.int .i64 (nxt l))).cell? ⟨D, 0, none⟩ = some (.int .i64 (nxt l)) := World.cell?_setCell_same _ _ _ hc
  have hrem : ((l * 1103515245 + 12345).tmod 2147483648) = nxt l := by
    unfold nxt
    exact Int.tmod_eq_emod_of_nonneg (by omega)
  generalize hG : nxt l = G at *
  have HG := Lib.hid hG
  clear hG
  go_enter Try.func119, Try.ntmps119
  go_wp2_with fail
  go_ret
  exact ⟨rfl, rfl⟩
/-- A dither's memory. -/
def stepN (e : Nat) : Int := if e ≤ 2 then 65536 else 256
def dF (e : Nat) (sh : Bool) (E r : Nat) (l : Int) : Nat → Value := fun j => if j = 0 then .int .i64 l else if j = 1 then cdv e else if j = 2 then .bool sh else .slice (some ⟨E, 0, none⟩) r r
structure DS (D E r e : Nat) (sh : Bool) (s : Int × List Int) (X : World) : Prop where
  top : X.rowIs D 107 4 (dF e sh E r s.1)
  row : X.rowIs E 3 r (fun j => .int .i64 (s.2.getD j 0))
  last : 0 ≤ s.1 ∧ s.1 < 2147483648
  len : s.2.length = r
  errs : ∀ j, j < r → -(stepN e) ≤ s.2.getD j 0 ∧ s.2.getD j 0 ≤ stepN e
/-- The level of a channel's next sample, and the state behind it. -/
def dLv (e : Nat) (s : Int × List Int) (ch : Nat) (x : Int) : Int := lvl (bitsN e) (x - s.2.getD ch 0 + (nxt s.1 % stepN e - stepN e / 2))
def dNx (e : Nat) (sh : Bool) (s : Int × List Int) (ch : Nat) (x : Int) : Int × List Int :=
  (nxt s.1, if sh then s.2.set ch (bnd (smp (bitsN e) (dLv e s ch x) - (x - s.2.getD ch 0)) (stepN e)) else s.2)
theorem dF_0 (e : Nat) (sh : Bool) (E r : Nat) (l l' : Int) : (fun j => if j = 0 then .int .i64 l' else dF e sh E r l j) = dF e sh E r l' := by
  funext j
  unfold dF
  by_cases h : j = 0
  · rw [if_pos h, if_pos h]
  · rw [if_neg h, if_neg h, if_neg h]
theorem stepN_two (e : Nat) : stepN e = 65536 ∨ stepN e = 256 := by unfold stepN; split <;> simp
theorem smp_bd {e : Nat} (h1 : 1 ≤ e) (h8 : e ≤ 8) (l : Int) : okS (smp (bitsN e) l) := by
  have hb : ∀ x : Int, okS (bnd x 8388607) := fun x => by unfold okS bnd; omega
  exact eightN h1 h8 (p := fun e => okS (smp (bitsN e) l)) (hb _) (hb _) (hb _) (hb _) (hb _) (hb _) (hb _) (hb _)

theorem lvl_far {e : Nat} (h1 : 1 ≤ e) (h8 : e ≤ 8) (a : Int) : -1099511627776 ≤ lvl (bitsN e) a ∧ lvl (bitsN e) a ≤ 1099511627776 := by
  have hb : ∀ x t : Int, 0 ≤ t → t ≤ 2147483647 → -1099511627776 ≤ bnd x t ∧ bnd x t ≤ 1099511627776 := fun x t h h2 => by unfold bnd; omega
  exact eightN h1 h8 (p := fun e => -1099511627776 ≤ lvl (bitsN e) a ∧ lvl (bitsN e) a ≤ 1099511627776)
    (hb _ 127 (by decide) (by decide)) (hb _ 127 (by decide) (by decide)) (hb _ 32767 (by decide) (by decide)) (hb _ 32767 (by decide) (by decide)) (hb _ 8388607 (by decide) (by decide)) (hb _ 8388607 (by decide) (by decide)) (hb _ 2147483647 (by decide) (by decide)) (hb _ 2147483647 (by decide) (by decide))

set_option maxHeartbeats 4000000 in
set_option maxRecDepth 100000 in
theorem dither1_any {e : Nat} (h1 : 1 ≤ e) (h8 : e ≤ 4) (D E r P2 P3 : Nat) (sh : Bool) (s : Int × List Int) (ch : Nat) (x : Int) (w : World) (hS : DS D E r e sh s w) (hch : ch < r) (hr8 : r ≤ 8) (hx : okS x)
    (k2 : w.cell? ⟨P2, 0, none⟩ = some (.pointer (some ⟨D, 0, none⟩))) (k3 : w.cell? ⟨P3, 0, none⟩ = some (.int .i64 (stepN e))) (hn : P2 ≠ D ∧ P3 ≠ D) (hDE : D ≠ E) :
    Calls Try.prog 118 #[.int .i64 ch, .int .i64 x, at0 P2, at0 P3] w fun y w' => y = .returned (.int .i64 (dLv e s ch x)) ∧ DS D E r e sh (dNx e sh s ch x) w' ∧
      (Below (min D E) w w' ∧ w.heap.size ≤ w'.heap.size ∧ ∀ k, k < w.heap.size → k ≠ D → k ≠ E → w'.heap[k]? = w.heap[k]?) := by
  obtain ⟨l, er⟩ := s
  obtain ⟨htop, hrow, ⟨hl0, hl1⟩, hlen, herr⟩ := hS
  simp only at htop hrow hl0 hl1 hlen herr
  have hnx := nxt_bd l
  have hnext := next_any D 4 _ l w htop (by decide) rfl hl0 hl1
  have hnextd := fun X (h : X.rowIs D 107 4 (dF e sh E r l)) => next_any D 4 _ l X h (by decide) rfl hl0 hl1
  have her := herr ch hch
  have hst := stepN_two e
  have c1 := htop.cell (i := 1) (by decide)
  have c2 := htop.cell (i := 2) (by decide)
  have c3 := htop.cell (i := 3) (by decide)
  rw [show dF e sh E r l 1 = cdv e from rfl] at c1
  rw [show dF e sh E r l 2 = .bool sh from rfl] at c2
  rw [show dF e sh E r l 3 = .slice (some ⟨E, 0, none⟩) r r from rfl] at c3
  have ce := hrow.cell hch
  obtain ⟨er0, her0⟩ : ∃ er0, er.getD ch 0 = er0 := ⟨_, rfl⟩
  rw [her0] at her ce
  obtain ⟨ST, hST⟩ : ∃ ST, stepN e = ST := ⟨_, rfl⟩
  obtain ⟨NX, hNX⟩ : ∃ NX, nxt l = NX := ⟨_, rfl⟩
  rw [hST] at k3 hst her
  rw [hNX] at hnx
  have hxx := hx
  unfold okS at hx
  have hlv := fun X (a : Int) (b : -1099511627776 ≤ a) (c : a ≤ 1099511627776) => levelOf_any h1 (by omega) a X b c
  unfold cdv at hlv c1
  have hone : ∃ T Y, T = cdT e ∧ Y = cdX e := ⟨_, _, rfl, rfl⟩
  obtain ⟨T, Y, hT, hY⟩ := hone
  rw [← hT, ← hY] at c1
  simp only [← hT, ← hY] at hlv
  have hsmp := fun X (a : Int) (b : -1099511627776 ≤ a) (c : a ≤ 1099511627776) => sampleOf_any h1 (by omega) a X b c
  unfold cdv at hsmp
  simp only [← hT, ← hY] at hsmp
  have d1 : decide ((ch : Int) < (r : Int)) = true := decide_eq_true (by omega)
  have d2 : decide (ch < r) = true := decide_eq_true hch
  have HTOP := Lib.hid htop
  have HROW := Lib.hid hrow
  have HLV := Lib.hid hlv
  have HSMP := Lib.hid hsmp
  have HNXT := Lib.hid hnextd
  have HT := Lib.hid hT
  have HY := Lib.hid hY
  have HERR := Lib.hid herr
  clear htop hrow hnext hlv hsmp hT hY hnextd herr
  rcases hst with rfl | rfl
  · go_enter Try.func118, Try.ntmps118
    go_wp2_with fail
    refine region_T (S := fun wx => wx.cell? ⟨P2, 0, none⟩ = some (.pointer (some ⟨D, 0, none⟩)) ∧ wx.cell? ⟨P3, 0, none⟩ = some (.int .i64 65536)) [] (by kernel_rfl) ⟨k2, k3⟩ (fun _ => ?_)
    have hS0 : w.drew.cell? ⟨P2, 0, none⟩ = some (.pointer (some ⟨D, 0, none⟩)) ∧ w.drew.cell? ⟨P3, 0, none⟩ = some (.int .i64 65536) := ⟨k2, k3⟩
    refine anyT_take (i := 0) (v := ?_) rfl (by kernel_rfl) (by kernel_rfl) (by kernel_rfl) (by kernel_rfl) (fun _ _ _ h => h) (Or.inl ⟨by rfl, ?_⟩) (hS0) ?_
    rotate_left
    focus ((intro wq hSw; obtain ⟨z1, z2⟩ := hSw; go_simp); try with_reducible rfl)
    try simp only [Act.put, List.getElem_toArray, List.getElem_cons_succ, List.getElem_cons_zero, List.setIfInBounds_toArray, List.set_cons_zero, List.set_cons_succ]
    refine anyT_take (i := 1) (v := ?_) rfl (by kernel_rfl) (by kernel_rfl) (by kernel_rfl) (by kernel_rfl) (fun _ _ _ h => h) (Or.inl ⟨by rfl, ?_⟩) (hS0) ?_
    rotate_left
    focus ((intro wq hSw; obtain ⟨z1, z2⟩ := hSw; go_simp); try with_reducible rfl)
    try simp only [Act.put, List.getElem_toArray, List.getElem_cons_succ, List.getElem_cons_zero, List.setIfInBounds_toArray, List.set_cons_zero, List.set_cons_succ]
    refine anyT_take (i := 2) (v := ?_) rfl (by kernel_rfl) (by kernel_rfl) (by kernel_rfl) (by kernel_rfl) (fun _ _ _ h => h) (Or.inl ⟨by rfl, ?_⟩) (hS0) ?_
    rotate_left
    focus ((intro wq hSw; obtain ⟨z1, z2⟩ := hSw; go_simp); try with_reducible rfl)
    try simp only [Act.put, List.getElem_toArray, List.getElem_cons_succ, List.getElem_cons_zero, List.setIfInBounds_toArray, List.set_cons_zero, List.set_cons_succ]
    refine anyT_take (i := 4) (v := ?_) rfl (by kernel_rfl) (by kernel_rfl) (by kernel_rfl) (by kernel_rfl) (fun _ _ _ h => h) (Or.inl ⟨by rfl, ?_⟩) (hS0) ?_
    rotate_left
    focus ((intro wq hSw; obtain ⟨z1, z2⟩ := hSw; go_simp); try with_reducible rfl)
    try simp only [Act.put, List.getElem_toArray, List.getElem_cons_succ, List.getElem_cons_zero, List.setIfInBounds_toArray, List.set_cons_zero, List.set_cons_succ]
    refine anyT_take (i := 6) (v := ?_) rfl (by kernel_rfl) (by kernel_rfl) (by kernel_rfl) (by kernel_rfl) (fun _ _ _ h => h) (Or.inl ⟨by rfl, ?_⟩) (hS0) ?_
    rotate_left
    focus ((intro wq hSw; obtain ⟨z1, z2⟩ := hSw; go_simp); try with_reducible rfl)
    try simp only [Act.put, List.getElem_toArray, List.getElem_cons_succ, List.getElem_cons_zero, List.setIfInBounds_toArray, List.set_cons_zero, List.set_cons_succ]
    refine anyT_take (i := 7) (v := ?_) rfl (by kernel_rfl) (by kernel_rfl) (by kernel_rfl) (by kernel_rfl) (fun _ _ _ h => h) (Or.inl ⟨by rfl, ?_⟩) (hS0) ?_
    rotate_left
    focus ((intro wq hSw; obtain ⟨z1, z2⟩ := hSw; go_simp); try with_reducible rfl)
    try simp only [Act.put, List.getElem_toArray, List.getElem_cons_succ, List.getElem_cons_zero, List.setIfInBounds_toArray, List.set_cons_zero, List.set_cons_succ]
    refine anyT_one (i := 3) (by kernel_rfl) rfl (fun K hK => ?_)
    go_simp
    refine (HNXT.out _ HTOP.out.drew).mono ?_
    rintro y wk ⟨rfl, rfl⟩
    rw [hNX]
    have hS1 : (w.drew.setCell ⟨D, 0, none⟩ (.int .i64 NX)).cell? ⟨P2, 0, none⟩ = some (.pointer (some ⟨D, 0, none⟩)) ∧ (w.drew.setCell ⟨D, 0, none⟩ (.int .i64 NX)).cell? ⟨P3, 0, none⟩ = some (.int .i64 65536) :=
      ⟨(World.cell?_setCell_other _ _ _ _ (fun h => hn.1 (by cases h; rfl))).trans k2, (World.cell?_setCell_other _ _ _ _ (fun h => hn.2 (by cases h; rfl))).trans k3⟩
    go_simp
    refine hK.out _ _ (fun _ => hS1) ?_
    clear hK K
    try simp only [Act.put, List.getElem_toArray, List.getElem_cons_succ, List.getElem_cons_zero, List.setIfInBounds_toArray, List.set_cons_zero, List.set_cons_succ]
    refine anyT_take (i := 5) (v := ?_) rfl (by kernel_rfl) (by kernel_rfl) (by kernel_rfl) (by kernel_rfl) (fun _ _ _ h => h) (Or.inl ⟨by rfl, ?_⟩) (hS1) ?_
    rotate_left
    focus ((intro wq hSw; skip; go_simp); try with_reducible rfl)
    try simp only [Act.put, List.getElem_toArray, List.getElem_cons_succ, List.getElem_cons_zero, List.setIfInBounds_toArray, List.set_cons_zero, List.set_cons_succ]
    refine anyT_take (i := 8) (v := ?_) rfl (by kernel_rfl) (by kernel_rfl) (by kernel_rfl) (by kernel_rfl) (fun _ _ _ h => h) (Or.inl ⟨by rfl, ?_⟩) (hS1) ?_
    rotate_left
    focus ((intro wq hSw; skip; go_simp); try with_reducible rfl)
    try simp only [Act.put, List.getElem_toArray, List.getElem_cons_succ, List.getElem_cons_zero, List.setIfInBounds_toArray, List.set_cons_zero, List.set_cons_succ]
    refine anyT_take (i := 9) (v := ?_) rfl (by kernel_rfl) (by kernel_rfl) (by kernel_rfl) (by kernel_rfl) (fun _ _ _ h => h) (Or.inl ⟨by rfl, ?_⟩) (hS1) ?_
    rotate_left
    focus ((intro wq hSw; skip; go_simp); try with_reducible rfl)
    try simp only [Act.put, List.getElem_toArray, List.getElem_cons_succ, List.getElem_cons_zero, List.setIfInBounds_toArray, List.set_cons_zero, List.set_cons_succ]
    refine anyT_done (by kernel_rfl) ?_ _
    have hnz : IntKind.i64.wrap (NX.tmod 65536 - IntKind.i64.wrap 32768) = NX % 65536 - 32768 := by
      rw [show IntKind.i64.wrap 32768 = 32768 from IntWalk.i64_in _ (by decide), Int.tmod_eq_emod_of_nonneg hnx.1]
      exact IntWalk.i64_in _ (by omega)
    rw [hnz]
    have hNZ : -32768 ≤ NX % 65536 - 32768 ∧ NX % 65536 - 32768 ≤ 32768 := by omega
    have hlvE : dLv e (l, er) ch x = lvl (bitsN e) (x - er0 + (NX % 65536 - 32768)) := by unfold dLv; rw [hST, hNX]; simp only; rw [her0]; rfl
    generalize NX % 65536 - 32768 = NZ at *
    have htop1 : ((w.setCell ⟨D, 0, none⟩ (.int .i64 NX)).drew).rowIs D 107 4 (dF e sh E r NX) := by rw [← dF_0 e sh E r l NX]; exact (HTOP.out.set 0 _).drew
    have hrow1 : ((w.setCell ⟨D, 0, none⟩ (.int .i64 NX)).drew).rowIs E 3 r (fun j => .int .i64 (er.getD j 0)) := (HROW.out.setOther (fun h => hDE h.symm) _).drew
    have hk1 : ((w.setCell ⟨D, 0, none⟩ (.int .i64 NX)).drew).cell? ⟨P2, 0, none⟩ = some (.pointer (some ⟨D, 0, none⟩)) ∧ ((w.setCell ⟨D, 0, none⟩ (.int .i64 NX)).drew).cell? ⟨P3, 0, none⟩ = some (.int .i64 65536) := hS1
    have hw1 : w.heap.size = ((w.setCell ⟨D, 0, none⟩ (.int .i64 NX)).drew).heap.size ∧ (Below (min D E) w ((w.setCell ⟨D, 0, none⟩ (.int .i64 NX)).drew)) ∧ ∀ k, k < w.heap.size → k ≠ D → ((w.setCell ⟨D, 0, none⟩ (.int .i64 NX)).drew).heap[k]? = w.heap[k]? :=
      ⟨by simp, ((Below.refl (min D E) w).setCell (p := ⟨D, 0, none⟩) (Nat.min_le_left D E) _).drew, fun k _ hk => blk_setCell_other _ _ _ _ hk⟩
    clear c1 c2 c3 ce k2 k3 hS0 hS1 HTOP HROW HNXT
    generalize (w.setCell ⟨D, 0, none⟩ (.int .i64 NX)).drew = W1 at *
    have c1 := htop1.cell (i := 1) (by decide)
    have c2 := htop1.cell (i := 2) (by decide)
    have c3 := htop1.cell (i := 3) (by decide)
    rw [show dF e sh E r NX 1 = cdv e from rfl] at c1
    rw [show dF e sh E r NX 2 = .bool sh from rfl] at c2
    rw [show dF e sh E r NX 3 = .slice (some ⟨E, 0, none⟩) r r from rfl] at c3
    unfold cdv at c1
    rw [← HT.out, ← HY.out] at c1
    obtain ⟨k2, k3⟩ := hk1
    have HTOP1 := Lib.hid htop1
    have HROW1 := Lib.hid hrow1
    have HW1 := Lib.hid hw1
    obtain ⟨A, hA⟩ : ∃ A, x - er0 + NZ = A := ⟨_, rfl⟩
    rw [hA] at hlvE
    have hA2 : -1099511627776 ≤ A ∧ A ≤ 1099511627776 := by omega
    have hadd : IntKind.i64.wrap (x - er0 + NZ) = A := by rw [hA]; exact IntWalk.i64_in _ (by omega)
    have hadd2 : wrap64 (x - er0 + NZ) = A := by rw [hA]; unfold wrap64; omega
    have HL55 := Lib.hid (HLV.out W1 A hA2.1 hA2.2)
    obtain ⟨L, hL⟩ : ∃ L, lvl (bitsN e) A = L := ⟨_, rfl⟩
    rw [hL] at hlvE HL55
    clear htop1 hrow1 hw1 hnz
    go_wp2_with (go_at_call 55; (with_reducible refine HL55.out.mono ?_); rintro y W2 ⟨rfl, hb2⟩; have k22 := (Same.of_below hb2).cell k2; have k32 := (Same.of_below hb2).cell k3; have c12 := (Same.of_below hb2).cell c1; have c22 := (Same.of_below hb2).cell c2; have c32 := (Same.of_below hb2).cell c3; have HB2 := Lib.hid hb2; clear hb2; cases sh)
    · go_ret
      have hlt1 := HTOP1.out.lt
      refine ⟨by rw [hlvE]; rfl, ?_, HW1.out.2.1.trans (HB2.out.mono (Nat.le_trans (Nat.min_le_left D E) (by omega))), by rw [HW1.out.1]; exact HB2.out.size, fun k hk hkD _ => (HB2.out.block k (by have := HW1.out.1; omega)).trans (HW1.out.2.2 k hk hkD)⟩
      rw [show dNx e false (l, er) ch x = (NX, er) from by unfold dNx; rw [← hNX]; rfl]
      exact ⟨rowIs_below HTOP1.out HB2.out, rowIs_below HROW1.out HB2.out, hnx, hlen, HERR.out⟩
    · have hTOP2 := rowIs_below HTOP1.out HB2.out
      have hROW2 := rowIs_below HROW1.out HB2.out
      have hsm := smp_bd h1 (show e ≤ 8 by omega) L
      have HS59 := Lib.hid (fun X => HSMP.out X L (by rw [← hL]; exact (lvl_far h1 (by omega) A).1) (by rw [← hL]; exact (lvl_far h1 (by omega) A).2))
      obtain ⟨SM, hSM⟩ : ∃ SM, smp (bitsN e) L = SM := ⟨_, rfl⟩
      rw [hSM] at HS59 hsm
      unfold okS at hsm
      obtain ⟨BD, hBD⟩ : ∃ BD, SM - (x - er0) = BD := ⟨_, rfl⟩
      have hsub2 : IntKind.i64.wrap BD = BD := IntWalk.i64_in _ (by omega)
      have H82 := Lib.hid (fun X => bounded_any BD 65536 X (by decide) (by decide))
      have S0 : Below W2.heap.size W2 W2.drew := (Below.refl _ _).drew
      go_wp2_with fail
      refine region_T (S := fun wx => Below W2.heap.size W2 wx) [16] (by kernel_rfl) S0 (fun _ => ?_)
      refine anyT_take (i := 0) (v := ?_) rfl (by kernel_rfl) (by kernel_rfl) (by kernel_rfl) (by kernel_rfl) (fun _ _ _ h => h) (Or.inl ⟨by rfl, ?_⟩) (S0) ?_
      rotate_left
      focus ((intro wq hSw; have z1 := (Same.of_below hSw).cell k22; have z2 := (Same.of_below hSw).cell k32; have z3 := (Same.of_below hSw).cell c12; have z4 := (Same.of_below hSw).cell c32; go_simp); try with_reducible rfl)
      try simp only [Act.put, List.getElem_toArray, List.getElem_cons_succ, List.getElem_cons_zero, List.setIfInBounds_toArray, List.set_cons_zero, List.set_cons_succ]
      refine anyT_take (i := 1) (v := ?_) rfl (by kernel_rfl) (by kernel_rfl) (by kernel_rfl) (by kernel_rfl) (fun _ _ _ h => h) (Or.inl ⟨by rfl, ?_⟩) (S0) ?_
      rotate_left
      focus ((intro wq hSw; have z1 := (Same.of_below hSw).cell k22; have z2 := (Same.of_below hSw).cell k32; have z3 := (Same.of_below hSw).cell c12; have z4 := (Same.of_below hSw).cell c32; go_simp); try with_reducible rfl)
      try simp only [Act.put, List.getElem_toArray, List.getElem_cons_succ, List.getElem_cons_zero, List.setIfInBounds_toArray, List.set_cons_zero, List.set_cons_succ]
      refine anyT_take (i := 2) (v := ?_) rfl (by kernel_rfl) (by kernel_rfl) (by kernel_rfl) (by kernel_rfl) (fun _ _ _ h => h) (Or.inl ⟨by rfl, ?_⟩) (S0) ?_
      rotate_left
      focus ((intro wq hSw; have z1 := (Same.of_below hSw).cell k22; have z2 := (Same.of_below hSw).cell k32; have z3 := (Same.of_below hSw).cell c12; have z4 := (Same.of_below hSw).cell c32; go_simp); try with_reducible rfl)
      try simp only [Act.put, List.getElem_toArray, List.getElem_cons_succ, List.getElem_cons_zero, List.setIfInBounds_toArray, List.set_cons_zero, List.set_cons_succ]
      refine anyT_take (i := 3) (v := ?_) rfl (by kernel_rfl) (by kernel_rfl) (by kernel_rfl) (by kernel_rfl) (fun _ _ _ h => h) (Or.inl ⟨by rfl, ?_⟩) (S0) ?_
      rotate_left
      focus ((intro wq hSw; have z1 := (Same.of_below hSw).cell k22; have z2 := (Same.of_below hSw).cell k32; have z3 := (Same.of_below hSw).cell c12; have z4 := (Same.of_below hSw).cell c32; go_simp); try with_reducible rfl)
      try simp only [Act.put, List.getElem_toArray, List.getElem_cons_succ, List.getElem_cons_zero, List.setIfInBounds_toArray, List.set_cons_zero, List.set_cons_succ]
      refine anyT_take (i := 4) (v := ?_) rfl (by kernel_rfl) (by kernel_rfl) (by kernel_rfl) (by kernel_rfl) (fun _ _ _ h => h) (Or.inl ⟨by rfl, ?_⟩) (S0) ?_
      rotate_left
      focus ((intro wq hSw; have z1 := (Same.of_below hSw).cell k22; have z2 := (Same.of_below hSw).cell k32; have z3 := (Same.of_below hSw).cell c12; have z4 := (Same.of_below hSw).cell c32; go_simp); try with_reducible rfl)
      try simp only [Act.put, List.getElem_toArray, List.getElem_cons_succ, List.getElem_cons_zero, List.setIfInBounds_toArray, List.set_cons_zero, List.set_cons_succ]
      refine anyT_take (i := 5) (v := ?_) rfl (by kernel_rfl) (by kernel_rfl) (by kernel_rfl) (by kernel_rfl) (fun _ _ _ h => h) (Or.inl ⟨by rfl, ?_⟩) (S0) ?_
      rotate_left
      focus ((intro wq hSw; have z1 := (Same.of_below hSw).cell k22; have z2 := (Same.of_below hSw).cell k32; have z3 := (Same.of_below hSw).cell c12; have z4 := (Same.of_below hSw).cell c32; go_simp); try with_reducible rfl)
      try simp only [Act.put, List.getElem_toArray, List.getElem_cons_succ, List.getElem_cons_zero, List.setIfInBounds_toArray, List.set_cons_zero, List.set_cons_succ]
      refine anyT_take (i := 6) (v := ?_) rfl (by kernel_rfl) (by kernel_rfl) (by kernel_rfl) (by kernel_rfl) (fun _ _ _ h => h) (Or.inl ⟨by rfl, ?_⟩) (S0) ?_
      rotate_left
      focus ((intro wq hSw; have z1 := (Same.of_below hSw).cell k22; have z2 := (Same.of_below hSw).cell k32; have z3 := (Same.of_below hSw).cell c12; have z4 := (Same.of_below hSw).cell c32; go_simp); try with_reducible rfl)
      try simp only [Act.put, List.getElem_toArray, List.getElem_cons_succ, List.getElem_cons_zero, List.setIfInBounds_toArray, List.set_cons_zero, List.set_cons_succ]
      refine anyT_take (i := 7) (v := ?_) rfl (by kernel_rfl) (by kernel_rfl) (by kernel_rfl) (by kernel_rfl) (fun _ _ _ h => h) (Or.inl ⟨by rfl, ?_⟩) (S0) ?_
      rotate_left
      focus ((intro wq hSw; have z1 := (Same.of_below hSw).cell k22; have z2 := (Same.of_below hSw).cell k32; have z3 := (Same.of_below hSw).cell c12; have z4 := (Same.of_below hSw).cell c32; go_simp); try with_reducible rfl)
      try simp only [Act.put, List.getElem_toArray, List.getElem_cons_succ, List.getElem_cons_zero, List.setIfInBounds_toArray, List.set_cons_zero, List.set_cons_succ]
      refine anyT_take (i := 8) (v := ?_) rfl (by kernel_rfl) (by kernel_rfl) (by kernel_rfl) (by kernel_rfl) (fun _ _ _ h => h) (Or.inl ⟨by rfl, ?_⟩) (S0) ?_
      rotate_left
      focus ((intro wq hSw; have z1 := (Same.of_below hSw).cell k22; have z2 := (Same.of_below hSw).cell k32; have z3 := (Same.of_below hSw).cell c12; have z4 := (Same.of_below hSw).cell c32; go_simp); try with_reducible rfl)
      try simp only [Act.put, List.getElem_toArray, List.getElem_cons_succ, List.getElem_cons_zero, List.setIfInBounds_toArray, List.set_cons_zero, List.set_cons_succ]
      refine anyT_take (i := 9) (v := ?_) rfl (by kernel_rfl) (by kernel_rfl) (by kernel_rfl) (by kernel_rfl) (fun _ _ _ h => h) (Or.inl ⟨by rfl, ?_⟩) (S0) ?_
      rotate_left
      focus ((intro wq hSw; have z1 := (Same.of_below hSw).cell k22; have z2 := (Same.of_below hSw).cell k32; have z3 := (Same.of_below hSw).cell c12; have z4 := (Same.of_below hSw).cell c32; go_simp); try with_reducible rfl)
      try simp only [Act.put, List.getElem_toArray, List.getElem_cons_succ, List.getElem_cons_zero, List.setIfInBounds_toArray, List.set_cons_zero, List.set_cons_succ]
      refine anyT_take (i := 11) (v := ?_) rfl (by kernel_rfl) (by kernel_rfl) (by kernel_rfl) (by kernel_rfl) (fun _ _ _ h => h) (Or.inl ⟨by rfl, ?_⟩) (S0) ?_
      rotate_left
      focus ((intro wq hSw; have z1 := (Same.of_below hSw).cell k22; have z2 := (Same.of_below hSw).cell k32; have z3 := (Same.of_below hSw).cell c12; have z4 := (Same.of_below hSw).cell c32; go_simp); try with_reducible rfl)
      try simp only [Act.put, List.getElem_toArray, List.getElem_cons_succ, List.getElem_cons_zero, List.setIfInBounds_toArray, List.set_cons_zero, List.set_cons_succ]
      refine anyT_take (i := 13) (v := ?_) rfl (by kernel_rfl) (by kernel_rfl) (by kernel_rfl) (by kernel_rfl) (fun _ _ _ h => h) (Or.inl ⟨by rfl, ?_⟩) (S0) ?_
      rotate_left
      focus ((intro wq hSw; have z1 := (Same.of_below hSw).cell k22; have z2 := (Same.of_below hSw).cell k32; have z3 := (Same.of_below hSw).cell c12; have z4 := (Same.of_below hSw).cell c32; go_simp); try with_reducible rfl)
      try simp only [Act.put, List.getElem_toArray, List.getElem_cons_succ, List.getElem_cons_zero, List.setIfInBounds_toArray, List.set_cons_zero, List.set_cons_succ]
      refine anyT_one (i := 10) (by kernel_rfl) rfl (fun K hK => ?_)
      go_simp
      refine (HS59.out _).mono ?_
      rintro y W4 ⟨rfl, hb4⟩
      have hS4 : Below W2.heap.size W2 W4 := Below.then S0 (Nat.le_refl _) hb4
      go_simp
      refine hK.out _ _ (fun _ => hS4) ?_
      clear hK K
      try simp only [Act.put, List.getElem_toArray, List.getElem_cons_succ, List.getElem_cons_zero, List.setIfInBounds_toArray, List.set_cons_zero, List.set_cons_succ]
      refine anyT_take (i := 12) (v := ?_) rfl (by kernel_rfl) (by kernel_rfl) (by kernel_rfl) (by kernel_rfl) (fun _ _ _ h => h) (Or.inl ⟨by rfl, ?_⟩) (hS4) ?_
      rotate_left
      focus ((intro wq hSw; skip; go_simp); try with_reducible rfl)
      try simp only [Act.put, List.getElem_toArray, List.getElem_cons_succ, List.getElem_cons_zero, List.setIfInBounds_toArray, List.set_cons_zero, List.set_cons_succ]
      try rw [hsub2]
      have HKE := Lib.hid (And.intro hlvE (And.intro hSM (And.intro hST (And.intro hNX (And.intro her0 (And.intro hBD (And.intro hnx hlen)))))))
      clear hlvE hSM hST hNX her0 hBD hnx hlen hL hA hA2 hadd hadd2 hNZ her hl0 hl1 hx hxx hsm hsub2 hTOP2 hROW2 hb4 c1 c2 c3 k2 k3
      have hTOP2 := Lib.hid (rowIs_below HTOP1.out HB2.out)
      have hROW2 := Lib.hid (rowIs_below HROW1.out HB2.out)
      refine anyT_one (i := 14) (by kernel_rfl) rfl (fun K hK => ?_)
      go_simp
      refine (H82.out _).mono ?_
      rintro y W5 ⟨rfl, rfl⟩
      go_simp
      refine hK.out _ _ (fun _ => hS4) ?_
      clear hK K
      try simp only [Act.put, List.getElem_toArray, List.getElem_cons_succ, List.getElem_cons_zero, List.setIfInBounds_toArray, List.set_cons_zero, List.set_cons_succ]
      refine anyT_take (i := 15) (v := ?_) rfl (by kernel_rfl) (by kernel_rfl) (by kernel_rfl) (by kernel_rfl) (fun _ _ _ h => h) (Or.inl ⟨by rfl, ?_⟩) (hS4) ?_
      rotate_left
      focus ((intro wq hSw; skip; go_simp); try with_reducible rfl)
      try simp only [Act.put, List.getElem_toArray, List.getElem_cons_succ, List.getElem_cons_zero, List.setIfInBounds_toArray, List.set_cons_zero, List.set_cons_succ]
      have hrE : W4.rowIs E 3 r (fun j => .int .i64 (er.getD j 0)) := hROW2.out.of_block (hS4.block E hROW2.out.lt)
      have hrD : W4.rowIs D 107 4 (dF e true E r NX) := hTOP2.out.of_block (hS4.block D hTOP2.out.lt)
      have hce := hrE.cell hch
      have hfz := hrE.frozen ch
      refine anyT_one (i := 16) (by kernel_rfl) rfl (fun K hK => ?_)
      go_simp
      refine hK.out _ _ (fun h => by cases h) ?_
      clear hK K
      try simp only [Act.put, List.getElem_toArray, List.getElem_cons_succ, List.getElem_cons_zero, List.setIfInBounds_toArray, List.set_cons_zero, List.set_cons_succ]
      refine anyT_done (by kernel_rfl) ?_ _
      obtain ⟨hlvE, hSM, hST, hNX, her0, hBD, hnx, hlen⟩ := HKE.out
      have hltD := HTOP1.out.lt
      have hltE := HROW1.out.lt
      have hz0 := HW1.out.1
      have hz2 := HB2.out.size
      have hz4 := hS4.size
      have hfin := Lib.hid (show DS D E r e true (dNx e true (l, er) ch x) (W4.setCell ⟨E, ch, none⟩ (.int .i64 (bnd BD 65536))) ∧ (Below (min D E) w (W4.setCell ⟨E, ch, none⟩ (.int .i64 (bnd BD 65536))) ∧ w.heap.size ≤ (W4.setCell ⟨E, ch, none⟩ (.int .i64 (bnd BD 65536))).heap.size ∧ ∀ k, k < w.heap.size → k ≠ D → k ≠ E → (W4.setCell ⟨E, ch, none⟩ (.int .i64 (bnd BD 65536))).heap[k]? = w.heap[k]?) from by
        have hdn : dNx e true (l, er) ch x = (NX, er.set ch (bnd BD 65536)) := by
          unfold dNx
          rw [hlvE, hSM, hST]
          simp only [hNX, her0, hBD, if_true]
        rw [hdn]
        refine ⟨⟨hrD.setOther hDE _, (hrE.set ch _).congr (fun j hj => ?_), hnx, by simpa using hlen, fun j hj => ?_⟩, ?_, by simp; omega, fun k hk hkD hkE => ?_⟩
        · by_cases hjc : j = ch
          · subst hjc; rw [if_pos rfl]; simp [List.getD, hlen, hch]
          · rw [if_neg hjc]; simp [List.getD, List.getElem?_set, Ne.symm hjc]
        · rw [hST]
          by_cases hjc : j = ch
          · subst hjc
            have : (er.set j (bnd BD 65536)).getD j 0 = bnd BD 65536 := by simp [List.getD, hlen, hch]
            simp only [this]; unfold bnd; omega
          · have : (er.set ch (bnd BD 65536)).getD j 0 = er.getD j 0 := by simp [List.getD, List.getElem?_set, Ne.symm hjc]
            simp only [this]; have := HERR.out j hj; rw [hST] at this; exact this
        · exact ((HW1.out.2.1.trans (HB2.out.mono (Nat.le_trans (Nat.min_le_left D E) (by omega)))).trans (hS4.mono (Nat.le_trans (Nat.min_le_left D E) (by omega)))).setCell (p := ⟨E, ch, none⟩) (Nat.min_le_right D E) _
        · exact (blk_setCell_other _ _ _ _ hkE).trans ((hS4.block k (by omega)).trans ((HB2.out.block k (by omega)).trans (HW1.out.2.2 k hk hkD))))
      clear hlvE hSM hST hNX her0 hBD hnx hlen hrE hrD hce hfz hTOP2 hROW2 c12 c22 c32 k22 k32
      go_wp2_with fail
      go_ret
      exact ⟨by rw [HKE.out.1]; rfl, hfin.out.1, hfin.out.2⟩
  · go_enter Try.func118, Try.ntmps118
    go_wp2_with fail
    refine region_T (S := fun wx => wx.cell? ⟨P2, 0, none⟩ = some (.pointer (some ⟨D, 0, none⟩)) ∧ wx.cell? ⟨P3, 0, none⟩ = some (.int .i64 256)) [] (by kernel_rfl) ⟨k2, k3⟩ (fun _ => ?_)
    have hS0 : w.drew.cell? ⟨P2, 0, none⟩ = some (.pointer (some ⟨D, 0, none⟩)) ∧ w.drew.cell? ⟨P3, 0, none⟩ = some (.int .i64 256) := ⟨k2, k3⟩
    refine anyT_take (i := 0) (v := ?_) rfl (by kernel_rfl) (by kernel_rfl) (by kernel_rfl) (by kernel_rfl) (fun _ _ _ h => h) (Or.inl ⟨by rfl, ?_⟩) (hS0) ?_
    rotate_left
    focus ((intro wq hSw; obtain ⟨z1, z2⟩ := hSw; go_simp); try with_reducible rfl)
    try simp only [Act.put, List.getElem_toArray, List.getElem_cons_succ, List.getElem_cons_zero, List.setIfInBounds_toArray, List.set_cons_zero, List.set_cons_succ]
    refine anyT_take (i := 1) (v := ?_) rfl (by kernel_rfl) (by kernel_rfl) (by kernel_rfl) (by kernel_rfl) (fun _ _ _ h => h) (Or.inl ⟨by rfl, ?_⟩) (hS0) ?_
    rotate_left
    focus ((intro wq hSw; obtain ⟨z1, z2⟩ := hSw; go_simp); try with_reducible rfl)
    try simp only [Act.put, List.getElem_toArray, List.getElem_cons_succ, List.getElem_cons_zero, List.setIfInBounds_toArray, List.set_cons_zero, List.set_cons_succ]
    refine anyT_take (i := 2) (v := ?_) rfl (by kernel_rfl) (by kernel_rfl) (by kernel_rfl) (by kernel_rfl) (fun _ _ _ h => h) (Or.inl ⟨by rfl, ?_⟩) (hS0) ?_
    rotate_left
    focus ((intro wq hSw; obtain ⟨z1, z2⟩ := hSw; go_simp); try with_reducible rfl)
    try simp only [Act.put, List.getElem_toArray, List.getElem_cons_succ, List.getElem_cons_zero, List.setIfInBounds_toArray, List.set_cons_zero, List.set_cons_succ]
    refine anyT_take (i := 4) (v := ?_) rfl (by kernel_rfl) (by kernel_rfl) (by kernel_rfl) (by kernel_rfl) (fun _ _ _ h => h) (Or.inl ⟨by rfl, ?_⟩) (hS0) ?_
    rotate_left
    focus ((intro wq hSw; obtain ⟨z1, z2⟩ := hSw; go_simp); try with_reducible rfl)
    try simp only [Act.put, List.getElem_toArray, List.getElem_cons_succ, List.getElem_cons_zero, List.setIfInBounds_toArray, List.set_cons_zero, List.set_cons_succ]
    refine anyT_take (i := 6) (v := ?_) rfl (by kernel_rfl) (by kernel_rfl) (by kernel_rfl) (by kernel_rfl) (fun _ _ _ h => h) (Or.inl ⟨by rfl, ?_⟩) (hS0) ?_
    rotate_left
    focus ((intro wq hSw; obtain ⟨z1, z2⟩ := hSw; go_simp); try with_reducible rfl)
    try simp only [Act.put, List.getElem_toArray, List.getElem_cons_succ, List.getElem_cons_zero, List.setIfInBounds_toArray, List.set_cons_zero, List.set_cons_succ]
    refine anyT_take (i := 7) (v := ?_) rfl (by kernel_rfl) (by kernel_rfl) (by kernel_rfl) (by kernel_rfl) (fun _ _ _ h => h) (Or.inl ⟨by rfl, ?_⟩) (hS0) ?_
    rotate_left
    focus ((intro wq hSw; obtain ⟨z1, z2⟩ := hSw; go_simp); try with_reducible rfl)
    try simp only [Act.put, List.getElem_toArray, List.getElem_cons_succ, List.getElem_cons_zero, List.setIfInBounds_toArray, List.set_cons_zero, List.set_cons_succ]
    refine anyT_one (i := 3) (by kernel_rfl) rfl (fun K hK => ?_)
    go_simp
    refine (HNXT.out _ HTOP.out.drew).mono ?_
    rintro y wk ⟨rfl, rfl⟩
    rw [hNX]
    have hS1 : (w.drew.setCell ⟨D, 0, none⟩ (.int .i64 NX)).cell? ⟨P2, 0, none⟩ = some (.pointer (some ⟨D, 0, none⟩)) ∧ (w.drew.setCell ⟨D, 0, none⟩ (.int .i64 NX)).cell? ⟨P3, 0, none⟩ = some (.int .i64 256) :=
      ⟨(World.cell?_setCell_other _ _ _ _ (fun h => hn.1 (by cases h; rfl))).trans k2, (World.cell?_setCell_other _ _ _ _ (fun h => hn.2 (by cases h; rfl))).trans k3⟩
    go_simp
    refine hK.out _ _ (fun _ => hS1) ?_
    clear hK K
    try simp only [Act.put, List.getElem_toArray, List.getElem_cons_succ, List.getElem_cons_zero, List.setIfInBounds_toArray, List.set_cons_zero, List.set_cons_succ]
    refine anyT_take (i := 5) (v := ?_) rfl (by kernel_rfl) (by kernel_rfl) (by kernel_rfl) (by kernel_rfl) (fun _ _ _ h => h) (Or.inl ⟨by rfl, ?_⟩) (hS1) ?_
    rotate_left
    focus ((intro wq hSw; skip; go_simp); try with_reducible rfl)
    try simp only [Act.put, List.getElem_toArray, List.getElem_cons_succ, List.getElem_cons_zero, List.setIfInBounds_toArray, List.set_cons_zero, List.set_cons_succ]
    refine anyT_take (i := 8) (v := ?_) rfl (by kernel_rfl) (by kernel_rfl) (by kernel_rfl) (by kernel_rfl) (fun _ _ _ h => h) (Or.inl ⟨by rfl, ?_⟩) (hS1) ?_
    rotate_left
    focus ((intro wq hSw; skip; go_simp); try with_reducible rfl)
    try simp only [Act.put, List.getElem_toArray, List.getElem_cons_succ, List.getElem_cons_zero, List.setIfInBounds_toArray, List.set_cons_zero, List.set_cons_succ]
    refine anyT_take (i := 9) (v := ?_) rfl (by kernel_rfl) (by kernel_rfl) (by kernel_rfl) (by kernel_rfl) (fun _ _ _ h => h) (Or.inl ⟨by rfl, ?_⟩) (hS1) ?_
    rotate_left
    focus ((intro wq hSw; skip; go_simp); try with_reducible rfl)
    try simp only [Act.put, List.getElem_toArray, List.getElem_cons_succ, List.getElem_cons_zero, List.setIfInBounds_toArray, List.set_cons_zero, List.set_cons_succ]
    refine anyT_done (by kernel_rfl) ?_ _
    have hnz : IntKind.i64.wrap (NX.tmod 256 - IntKind.i64.wrap 128) = NX % 256 - 128 := by
      rw [show IntKind.i64.wrap 128 = 128 from IntWalk.i64_in _ (by decide), Int.tmod_eq_emod_of_nonneg hnx.1]
      exact IntWalk.i64_in _ (by omega)
    rw [hnz]
    have hNZ : -128 ≤ NX % 256 - 128 ∧ NX % 256 - 128 ≤ 128 := by omega
    have hlvE : dLv e (l, er) ch x = lvl (bitsN e) (x - er0 + (NX % 256 - 128)) := by unfold dLv; rw [hST, hNX]; simp only; rw [her0]; rfl
    generalize NX % 256 - 128 = NZ at *
    have htop1 : ((w.setCell ⟨D, 0, none⟩ (.int .i64 NX)).drew).rowIs D 107 4 (dF e sh E r NX) := by rw [← dF_0 e sh E r l NX]; exact (HTOP.out.set 0 _).drew
    have hrow1 : ((w.setCell ⟨D, 0, none⟩ (.int .i64 NX)).drew).rowIs E 3 r (fun j => .int .i64 (er.getD j 0)) := (HROW.out.setOther (fun h => hDE h.symm) _).drew
    have hk1 : ((w.setCell ⟨D, 0, none⟩ (.int .i64 NX)).drew).cell? ⟨P2, 0, none⟩ = some (.pointer (some ⟨D, 0, none⟩)) ∧ ((w.setCell ⟨D, 0, none⟩ (.int .i64 NX)).drew).cell? ⟨P3, 0, none⟩ = some (.int .i64 256) := hS1
    have hw1 : w.heap.size = ((w.setCell ⟨D, 0, none⟩ (.int .i64 NX)).drew).heap.size ∧ (Below (min D E) w ((w.setCell ⟨D, 0, none⟩ (.int .i64 NX)).drew)) ∧ ∀ k, k < w.heap.size → k ≠ D → ((w.setCell ⟨D, 0, none⟩ (.int .i64 NX)).drew).heap[k]? = w.heap[k]? :=
      ⟨by simp, ((Below.refl (min D E) w).setCell (p := ⟨D, 0, none⟩) (Nat.min_le_left D E) _).drew, fun k _ hk => blk_setCell_other _ _ _ _ hk⟩
    clear c1 c2 c3 ce k2 k3 hS0 hS1 HTOP HROW HNXT
    generalize (w.setCell ⟨D, 0, none⟩ (.int .i64 NX)).drew = W1 at *
    have c1 := htop1.cell (i := 1) (by decide)
    have c2 := htop1.cell (i := 2) (by decide)
    have c3 := htop1.cell (i := 3) (by decide)
    rw [show dF e sh E r NX 1 = cdv e from rfl] at c1
    rw [show dF e sh E r NX 2 = .bool sh from rfl] at c2
    rw [show dF e sh E r NX 3 = .slice (some ⟨E, 0, none⟩) r r from rfl] at c3
    unfold cdv at c1
    rw [← HT.out, ← HY.out] at c1
    obtain ⟨k2, k3⟩ := hk1
    have HTOP1 := Lib.hid htop1
    have HROW1 := Lib.hid hrow1
    have HW1 := Lib.hid hw1
    obtain ⟨A, hA⟩ : ∃ A, x - er0 + NZ = A := ⟨_, rfl⟩
    rw [hA] at hlvE
    have hA2 : -1099511627776 ≤ A ∧ A ≤ 1099511627776 := by omega
    have hadd : IntKind.i64.wrap (x - er0 + NZ) = A := by rw [hA]; exact IntWalk.i64_in _ (by omega)
    have hadd2 : wrap64 (x - er0 + NZ) = A := by rw [hA]; unfold wrap64; omega
    have HL55 := Lib.hid (HLV.out W1 A hA2.1 hA2.2)
    obtain ⟨L, hL⟩ : ∃ L, lvl (bitsN e) A = L := ⟨_, rfl⟩
    rw [hL] at hlvE HL55
    clear htop1 hrow1 hw1 hnz
    go_wp2_with (go_at_call 55; (with_reducible refine HL55.out.mono ?_); rintro y W2 ⟨rfl, hb2⟩; have k22 := (Same.of_below hb2).cell k2; have k32 := (Same.of_below hb2).cell k3; have c12 := (Same.of_below hb2).cell c1; have c22 := (Same.of_below hb2).cell c2; have c32 := (Same.of_below hb2).cell c3; have HB2 := Lib.hid hb2; clear hb2; cases sh)
    · go_ret
      have hlt1 := HTOP1.out.lt
      refine ⟨by rw [hlvE]; rfl, ?_, HW1.out.2.1.trans (HB2.out.mono (Nat.le_trans (Nat.min_le_left D E) (by omega))), by rw [HW1.out.1]; exact HB2.out.size, fun k hk hkD _ => (HB2.out.block k (by have := HW1.out.1; omega)).trans (HW1.out.2.2 k hk hkD)⟩
      rw [show dNx e false (l, er) ch x = (NX, er) from by unfold dNx; rw [← hNX]; rfl]
      exact ⟨rowIs_below HTOP1.out HB2.out, rowIs_below HROW1.out HB2.out, hnx, hlen, HERR.out⟩
    · have hTOP2 := rowIs_below HTOP1.out HB2.out
      have hROW2 := rowIs_below HROW1.out HB2.out
      have hsm := smp_bd h1 (show e ≤ 8 by omega) L
      have HS59 := Lib.hid (fun X => HSMP.out X L (by rw [← hL]; exact (lvl_far h1 (by omega) A).1) (by rw [← hL]; exact (lvl_far h1 (by omega) A).2))
      obtain ⟨SM, hSM⟩ : ∃ SM, smp (bitsN e) L = SM := ⟨_, rfl⟩
      rw [hSM] at HS59 hsm
      unfold okS at hsm
      obtain ⟨BD, hBD⟩ : ∃ BD, SM - (x - er0) = BD := ⟨_, rfl⟩
      have hsub2 : IntKind.i64.wrap BD = BD := IntWalk.i64_in _ (by omega)
      have H82 := Lib.hid (fun X => bounded_any BD 256 X (by decide) (by decide))
      have S0 : Below W2.heap.size W2 W2.drew := (Below.refl _ _).drew
      go_wp2_with fail
      refine region_T (S := fun wx => Below W2.heap.size W2 wx) [16] (by kernel_rfl) S0 (fun _ => ?_)
      refine anyT_take (i := 0) (v := ?_) rfl (by kernel_rfl) (by kernel_rfl) (by kernel_rfl) (by kernel_rfl) (fun _ _ _ h => h) (Or.inl ⟨by rfl, ?_⟩) (S0) ?_
      rotate_left
      focus ((intro wq hSw; have z1 := (Same.of_below hSw).cell k22; have z2 := (Same.of_below hSw).cell k32; have z3 := (Same.of_below hSw).cell c12; have z4 := (Same.of_below hSw).cell c32; go_simp); try with_reducible rfl)
      try simp only [Act.put, List.getElem_toArray, List.getElem_cons_succ, List.getElem_cons_zero, List.setIfInBounds_toArray, List.set_cons_zero, List.set_cons_succ]
      refine anyT_take (i := 1) (v := ?_) rfl (by kernel_rfl) (by kernel_rfl) (by kernel_rfl) (by kernel_rfl) (fun _ _ _ h => h) (Or.inl ⟨by rfl, ?_⟩) (S0) ?_
      rotate_left
      focus ((intro wq hSw; have z1 := (Same.of_below hSw).cell k22; have z2 := (Same.of_below hSw).cell k32; have z3 := (Same.of_below hSw).cell c12; have z4 := (Same.of_below hSw).cell c32; go_simp); try with_reducible rfl)
      try simp only [Act.put, List.getElem_toArray, List.getElem_cons_succ, List.getElem_cons_zero, List.setIfInBounds_toArray, List.set_cons_zero, List.set_cons_succ]
      refine anyT_take (i := 2) (v := ?_) rfl (by kernel_rfl) (by kernel_rfl) (by kernel_rfl) (by kernel_rfl) (fun _ _ _ h => h) (Or.inl ⟨by rfl, ?_⟩) (S0) ?_
      rotate_left
      focus ((intro wq hSw; have z1 := (Same.of_below hSw).cell k22; have z2 := (Same.of_below hSw).cell k32; have z3 := (Same.of_below hSw).cell c12; have z4 := (Same.of_below hSw).cell c32; go_simp); try with_reducible rfl)
      try simp only [Act.put, List.getElem_toArray, List.getElem_cons_succ, List.getElem_cons_zero, List.setIfInBounds_toArray, List.set_cons_zero, List.set_cons_succ]
      refine anyT_take (i := 3) (v := ?_) rfl (by kernel_rfl) (by kernel_rfl) (by kernel_rfl) (by kernel_rfl) (fun _ _ _ h => h) (Or.inl ⟨by rfl, ?_⟩) (S0) ?_
      rotate_left
      focus ((intro wq hSw; have z1 := (Same.of_below hSw).cell k22; have z2 := (Same.of_below hSw).cell k32; have z3 := (Same.of_below hSw).cell c12; have z4 := (Same.of_below hSw).cell c32; go_simp); try with_reducible rfl)
      try simp only [Act.put, List.getElem_toArray, List.getElem_cons_succ, List.getElem_cons_zero, List.setIfInBounds_toArray, List.set_cons_zero, List.set_cons_succ]
      refine anyT_take (i := 4) (v := ?_) rfl (by kernel_rfl) (by kernel_rfl) (by kernel_rfl) (by kernel_rfl) (fun _ _ _ h => h) (Or.inl ⟨by rfl, ?_⟩) (S0) ?_
      rotate_left
      focus ((intro wq hSw; have z1 := (Same.of_below hSw).cell k22; have z2 := (Same.of_below hSw).cell k32; have z3 := (Same.of_below hSw).cell c12; have z4 := (Same.of_below hSw).cell c32; go_simp); try with_reducible rfl)
      try simp only [Act.put, List.getElem_toArray, List.getElem_cons_succ, List.getElem_cons_zero, List.setIfInBounds_toArray, List.set_cons_zero, List.set_cons_succ]
      refine anyT_take (i := 5) (v := ?_) rfl (by kernel_rfl) (by kernel_rfl) (by kernel_rfl) (by kernel_rfl) (fun _ _ _ h => h) (Or.inl ⟨by rfl, ?_⟩) (S0) ?_
      rotate_left
      focus ((intro wq hSw; have z1 := (Same.of_below hSw).cell k22; have z2 := (Same.of_below hSw).cell k32; have z3 := (Same.of_below hSw).cell c12; have z4 := (Same.of_below hSw).cell c32; go_simp); try with_reducible rfl)
      try simp only [Act.put, List.getElem_toArray, List.getElem_cons_succ, List.getElem_cons_zero, List.setIfInBounds_toArray, List.set_cons_zero, List.set_cons_succ]
      refine anyT_take (i := 6) (v := ?_) rfl (by kernel_rfl) (by kernel_rfl) (by kernel_rfl) (by kernel_rfl) (fun _ _ _ h => h) (Or.inl ⟨by rfl, ?_⟩) (S0) ?_
      rotate_left
      focus ((intro wq hSw; have z1 := (Same.of_below hSw).cell k22; have z2 := (Same.of_below hSw).cell k32; have z3 := (Same.of_below hSw).cell c12; have z4 := (Same.of_below hSw).cell c32; go_simp); try with_reducible rfl)
      try simp only [Act.put, List.getElem_toArray, List.getElem_cons_succ, List.getElem_cons_zero, List.setIfInBounds_toArray, List.set_cons_zero, List.set_cons_succ]
      refine anyT_take (i := 7) (v := ?_) rfl (by kernel_rfl) (by kernel_rfl) (by kernel_rfl) (by kernel_rfl) (fun _ _ _ h => h) (Or.inl ⟨by rfl, ?_⟩) (S0) ?_
      rotate_left
      focus ((intro wq hSw; have z1 := (Same.of_below hSw).cell k22; have z2 := (Same.of_below hSw).cell k32; have z3 := (Same.of_below hSw).cell c12; have z4 := (Same.of_below hSw).cell c32; go_simp); try with_reducible rfl)
      try simp only [Act.put, List.getElem_toArray, List.getElem_cons_succ, List.getElem_cons_zero, List.setIfInBounds_toArray, List.set_cons_zero, List.set_cons_succ]
      refine anyT_take (i := 8) (v := ?_) rfl (by kernel_rfl) (by kernel_rfl) (by kernel_rfl) (by kernel_rfl) (fun _ _ _ h => h) (Or.inl ⟨by rfl, ?_⟩) (S0) ?_
      rotate_left
      focus ((intro wq hSw; have z1 := (Same.of_below hSw).cell k22; have z2 := (Same.of_below hSw).cell k32; have z3 := (Same.of_below hSw).cell c12; have z4 := (Same.of_below hSw).cell c32; go_simp); try with_reducible rfl)
      try simp only [Act.put, List.getElem_toArray, List.getElem_cons_succ, List.getElem_cons_zero, List.setIfInBounds_toArray, List.set_cons_zero, List.set_cons_succ]
      refine anyT_take (i := 9) (v := ?_) rfl (by kernel_rfl) (by kernel_rfl) (by kernel_rfl) (by kernel_rfl) (fun _ _ _ h => h) (Or.inl ⟨by rfl, ?_⟩) (S0) ?_
      rotate_left
      focus ((intro wq hSw; have z1 := (Same.of_below hSw).cell k22; have z2 := (Same.of_below hSw).cell k32; have z3 := (Same.of_below hSw).cell c12; have z4 := (Same.of_below hSw).cell c32; go_simp); try with_reducible rfl)
      try simp only [Act.put, List.getElem_toArray, List.getElem_cons_succ, List.getElem_cons_zero, List.setIfInBounds_toArray, List.set_cons_zero, List.set_cons_succ]
      refine anyT_take (i := 11) (v := ?_) rfl (by kernel_rfl) (by kernel_rfl) (by kernel_rfl) (by kernel_rfl) (fun _ _ _ h => h) (Or.inl ⟨by rfl, ?_⟩) (S0) ?_
      rotate_left
      focus ((intro wq hSw; have z1 := (Same.of_below hSw).cell k22; have z2 := (Same.of_below hSw).cell k32; have z3 := (Same.of_below hSw).cell c12; have z4 := (Same.of_below hSw).cell c32; go_simp); try with_reducible rfl)
      try simp only [Act.put, List.getElem_toArray, List.getElem_cons_succ, List.getElem_cons_zero, List.setIfInBounds_toArray, List.set_cons_zero, List.set_cons_succ]
      refine anyT_take (i := 13) (v := ?_) rfl (by kernel_rfl) (by kernel_rfl) (by kernel_rfl) (by kernel_rfl) (fun _ _ _ h => h) (Or.inl ⟨by rfl, ?_⟩) (S0) ?_
      rotate_left
      focus ((intro wq hSw; have z1 := (Same.of_below hSw).cell k22; have z2 := (Same.of_below hSw).cell k32; have z3 := (Same.of_below hSw).cell c12; have z4 := (Same.of_below hSw).cell c32; go_simp); try with_reducible rfl)
      try simp only [Act.put, List.getElem_toArray, List.getElem_cons_succ, List.getElem_cons_zero, List.setIfInBounds_toArray, List.set_cons_zero, List.set_cons_succ]
      refine anyT_one (i := 10) (by kernel_rfl) rfl (fun K hK => ?_)
      go_simp
      refine (HS59.out _).mono ?_
      rintro y W4 ⟨rfl, hb4⟩
      have hS4 : Below W2.heap.size W2 W4 := Below.then S0 (Nat.le_refl _) hb4
      go_simp
      refine hK.out _ _ (fun _ => hS4) ?_
      clear hK K
      try simp only [Act.put, List.getElem_toArray, List.getElem_cons_succ, List.getElem_cons_zero, List.setIfInBounds_toArray, List.set_cons_zero, List.set_cons_succ]
      refine anyT_take (i := 12) (v := ?_) rfl (by kernel_rfl) (by kernel_rfl) (by kernel_rfl) (by kernel_rfl) (fun _ _ _ h => h) (Or.inl ⟨by rfl, ?_⟩) (hS4) ?_
      rotate_left
      focus ((intro wq hSw; skip; go_simp); try with_reducible rfl)
      try simp only [Act.put, List.getElem_toArray, List.getElem_cons_succ, List.getElem_cons_zero, List.setIfInBounds_toArray, List.set_cons_zero, List.set_cons_succ]
      try rw [hsub2]
      have HKE := Lib.hid (And.intro hlvE (And.intro hSM (And.intro hST (And.intro hNX (And.intro her0 (And.intro hBD (And.intro hnx hlen)))))))
      clear hlvE hSM hST hNX her0 hBD hnx hlen hL hA hA2 hadd hadd2 hNZ her hl0 hl1 hx hxx hsm hsub2 hTOP2 hROW2 hb4 c1 c2 c3 k2 k3
      have hTOP2 := Lib.hid (rowIs_below HTOP1.out HB2.out)
      have hROW2 := Lib.hid (rowIs_below HROW1.out HB2.out)
      refine anyT_one (i := 14) (by kernel_rfl) rfl (fun K hK => ?_)
      go_simp
      refine (H82.out _).mono ?_
      rintro y W5 ⟨rfl, rfl⟩
      go_simp
      refine hK.out _ _ (fun _ => hS4) ?_
      clear hK K
      try simp only [Act.put, List.getElem_toArray, List.getElem_cons_succ, List.getElem_cons_zero, List.setIfInBounds_toArray, List.set_cons_zero, List.set_cons_succ]
      refine anyT_take (i := 15) (v := ?_) rfl (by kernel_rfl) (by kernel_rfl) (by kernel_rfl) (by kernel_rfl) (fun _ _ _ h => h) (Or.inl ⟨by rfl, ?_⟩) (hS4) ?_
      rotate_left
      focus ((intro wq hSw; skip; go_simp); try with_reducible rfl)
      try simp only [Act.put, List.getElem_toArray, List.getElem_cons_succ, List.getElem_cons_zero, List.setIfInBounds_toArray, List.set_cons_zero, List.set_cons_succ]
      have hrE : W4.rowIs E 3 r (fun j => .int .i64 (er.getD j 0)) := hROW2.out.of_block (hS4.block E hROW2.out.lt)
      have hrD : W4.rowIs D 107 4 (dF e true E r NX) := hTOP2.out.of_block (hS4.block D hTOP2.out.lt)
      have hce := hrE.cell hch
      have hfz := hrE.frozen ch
      refine anyT_one (i := 16) (by kernel_rfl) rfl (fun K hK => ?_)
      go_simp
      refine hK.out _ _ (fun h => by cases h) ?_
      clear hK K
      try simp only [Act.put, List.getElem_toArray, List.getElem_cons_succ, List.getElem_cons_zero, List.setIfInBounds_toArray, List.set_cons_zero, List.set_cons_succ]
      refine anyT_done (by kernel_rfl) ?_ _
      obtain ⟨hlvE, hSM, hST, hNX, her0, hBD, hnx, hlen⟩ := HKE.out
      have hltD := HTOP1.out.lt
      have hltE := HROW1.out.lt
      have hz0 := HW1.out.1
      have hz2 := HB2.out.size
      have hz4 := hS4.size
      have hfin := Lib.hid (show DS D E r e true (dNx e true (l, er) ch x) (W4.setCell ⟨E, ch, none⟩ (.int .i64 (bnd BD 256))) ∧ (Below (min D E) w (W4.setCell ⟨E, ch, none⟩ (.int .i64 (bnd BD 256))) ∧ w.heap.size ≤ (W4.setCell ⟨E, ch, none⟩ (.int .i64 (bnd BD 256))).heap.size ∧ ∀ k, k < w.heap.size → k ≠ D → k ≠ E → (W4.setCell ⟨E, ch, none⟩ (.int .i64 (bnd BD 256))).heap[k]? = w.heap[k]?) from by
        have hdn : dNx e true (l, er) ch x = (NX, er.set ch (bnd BD 256)) := by
          unfold dNx
          rw [hlvE, hSM, hST]
          simp only [hNX, her0, hBD, if_true]
        rw [hdn]
        refine ⟨⟨hrD.setOther hDE _, (hrE.set ch _).congr (fun j hj => ?_), hnx, by simpa using hlen, fun j hj => ?_⟩, ?_, by simp; omega, fun k hk hkD hkE => ?_⟩
        · by_cases hjc : j = ch
          · subst hjc; rw [if_pos rfl]; simp [List.getD, hlen, hch]
          · rw [if_neg hjc]; simp [List.getD, List.getElem?_set, Ne.symm hjc]
        · rw [hST]
          by_cases hjc : j = ch
          · subst hjc
            have : (er.set j (bnd BD 256)).getD j 0 = bnd BD 256 := by simp [List.getD, hlen, hch]
            simp only [this]; unfold bnd; omega
          · have : (er.set ch (bnd BD 256)).getD j 0 = er.getD j 0 := by simp [List.getD, List.getElem?_set, Ne.symm hjc]
            simp only [this]; have := HERR.out j hj; rw [hST] at this; exact this
        · exact ((HW1.out.2.1.trans (HB2.out.mono (Nat.le_trans (Nat.min_le_left D E) (by omega)))).trans (hS4.mono (Nat.le_trans (Nat.min_le_left D E) (by omega)))).setCell (p := ⟨E, ch, none⟩) (Nat.min_le_right D E) _
        · exact (blk_setCell_other _ _ _ _ hkE).trans ((hS4.block k (by omega)).trans ((HB2.out.block k (by omega)).trans (HW1.out.2.2 k hk hkD))))
      clear hlvE hSM hST hNX her0 hBD hnx hlen hrE hrD hce hfz hTOP2 hROW2 c12 c22 c32 k22 k32
      go_wp2_with fail
      go_ret
      exact ⟨by rw [HKE.out.1]; rfl, hfin.out.1, hfin.out.2⟩
end Go.Proofs.Ytegomicpolnpoaa
