/- The reference's Get. -/
import Derived.Test.YtgcohmlapgnbdaaUO
namespace Go.Proofs.Ytgcohmlapgnbdaa
open Go.RowKit Go.Shelf Go.Deep
variable (sz ch fi W R S L c t : Int)

theorem op_append_ints {ops : Array Oper} {o : Oper} {a : Act} {w : World} {K : Act → World → Prop} {Q : Exit → Act → World → Prop} {X : Prop} (hgd : o.guard = none) (s x : Operand)
    (ho : o.op = .call { callee := .builtin .append, args := #[s, x], argTypes := #[39, 39] }) (B : Nat) (v : Value) (n : Nat) (xs : List Int) (hs : a.eval s = v) (hown : w.ownsRow B 3 1 v n (xs.map (Value.int .i64)))
    (sp : Option Addr) (m sc : Nat) (hx : a.eval x = .slice sp m sc) (Lr : List Int) (hl : Lr.length = m) (hsrc : 0 < m → ∃ ad, sp = some ad ∧ ∀ j, j < m → w.cell? (ad.add j) = some (.int .i64 (Lr.getD j 0)))
    (hn : n + m ≤ 17592186044416) (hB : B ≤ w.heap.size)
    (h : ∀ v' w', w'.ownsRow B 3 1 v' (n + m) ((xs ++ Lr).map (Value.int .i64)) → w.grownBy w' v.ownBlock → Moved w v v' → K (a.put o.dst v') w') : if Region.wanted o (yielded ops a.tmps) = true then Oper.wp Try.prog o a w K Q else X := by
  rw [if_pos (by simp [Region.wanted, hgd])]
  obtain ⟨i0, hi, hz0, hz1, hz2⟩ := info_parts Try.info3
  have hrun : ∃ v' w', (Builtin.append_ #[39, 39] o.type #[v, .slice sp m sc]).run Try.prog w = .ok v' w' ∧ w'.ownsRow B 3 1 v' (n + m) ((xs ++ Lr).map (Value.int .i64)) ∧ w.grownBy w' v.ownBlock ∧ Moved w v v' := by
    by_cases h0 : m = 0
    · subst h0
      obtain rfl : Lr = [] := List.eq_nil_of_length_eq_zero hl
      exact ⟨v, w, run_append_zero (P := Try.prog) w B 39 o.type 3 i0 1 Try.underlying39 hi v n _ hown sp sc, by simpa using hown, ⟨rfl, rfl, rfl, Nat.le_refl _, fun _ _ _ => rfl⟩, .inl rfl⟩
    · obtain ⟨ad, rfl, hc⟩ := hsrc (by omega)
      obtain ⟨v', w', h1, h2, h3, h4⟩ := run_append_moves (P := Try.prog) w B 39 o.type 3 i0 _ 1 8 Try.underlying39 hi hz0 hz1 hz2 rfl (by decide) v n _ hown ad m sc (Lr.map (Value.int .i64)) (by simp [hl]) (fun j u hu => by
        simp only [List.getElem?_map, Option.map_eq_some_iff] at hu
        obtain ⟨y, hy, rfl⟩ := hu
        have hj : j < m := by have := (List.getElem?_eq_some_iff.1 hy).1; omega
        have := hc j hj
        simpa [List.getD, hy] using this) (fun u hu => by simp only [List.mem_map] at hu; obtain ⟨y, _, rfl⟩ := hu; rfl) (by unfold maxLen; omega) (by omega) hB
      exact ⟨v', w', h1, by simpa using h2, h3, h4⟩
  obtain ⟨v', w', h1, h2, h3, h4⟩ := hrun
  unfold Oper.wp execOp
  simp only [ho, resolve, invoke, builtin, Sem.run_bind, Sem.run_pure, Result.andThen_ok, List.map_toArray, List.map_cons, List.map_nil, hs, hx, h1]
  exact h v' w' h2 h3 h4
set_option maxHeartbeats 4000000 in
set_option maxRecDepth 100000 in
theorem refGet_any (n : Int) (bb ob ml mc p : Nat) (ra : Option Addr) (rc : Nat) (r : List Int) (w : World) (hn : 0 ≤ n) (ht : n < t) (hz : 1 ≤ sz ∧ sz ≤ 1024) (hf : Sm fi) (hf0 : 0 ≤ fi) (hR : Sm R) (hR0 : 0 ≤ R) (hRn : R + n ≤ 200000) (hp : (p : Int) = (fi + (R + n)) % sz) (hpl : p < ml) (hc : w.cell? ⟨bb, ob + p, none⟩ = some (.slice ra r.length rc)) (hr : RowIn w r (.slice ra r.length rc)) :
    Calls Try.prog 67 #[rgV sz ch fi W R S L c t (.slice (some ⟨bb, ob, none⟩) ml mc), .int .i64 n] w (GetM r 0 w) := by
  have HP := Lib.hid fun x => refPlace_any sz ch fi W R S L c t (some ⟨bb, ob, none⟩) ml mc x (R + n) hz hf (by omega) hf0
  rw [← hp] at HP
  obtain ⟨a1, b1⟩ := hR
  have e1 : IntKind.i64.wrap (R + n) = R + n := by rw [IntKind.wrap_i64]; omega
  have w1 : ¬ n < 0 := by omega
  have w2 : ¬ t < 0 := by omega
  have w3 : ¬ t ≤ n := by omega
  have w5 : (0 : Int) ≤ (p : Int) := by omega
  have w6 : (p : Int) < (ml : Int) := by omega
  have HR := Lib.hid hr
  have HRL : Hid (r.length ≤ 17592186044416 ∧ okRow r) := Lib.hid (by
    obtain ⟨_, _, _, hin, h1, _⟩ := hr
    exact ⟨h1, h1, fun i hi => by obtain ⟨_, _, _, _, h3⟩ := hin i hi; exact h3⟩)
  obtain ⟨O, hO⟩ : ∃ O, Obj.cells (rgC sz ch fi W R S L c t (.slice (some ⟨bb, ob, none⟩) ml mc)) 31 = O := ⟨_, rfl⟩
  have hb1 : Below w.heap.size w (w.alloc O) := (Below.refl _ w).alloc (Nat.le_refl _) _
  have hrow : (w.alloc O).heap[w.heap.size]? = some O := blk_alloc_new w O
  have hcc : (w.alloc O).cell? ⟨bb, ob + p, none⟩ = some (.slice ra r.length rc) := (Same.alloc w O).cell hc
  obtain ⟨Z, hZ⟩ : ∃ Z, w.alloc O = Z := ⟨_, rfl⟩
  have hsz : Z.heap.size = w.heap.size + 1 := by rw [← hZ]; simp
  rw [hZ] at hb1 hrow hcc
  have HX : Hid (∀ y, Below Z.heap.size Z y → y.cell? ⟨w.heap.size, 0, none⟩ = some (.int .i64 sz) ∧ y.cell? ⟨w.heap.size, 1, none⟩ = some (.int .i64 ch) ∧ y.cell? ⟨w.heap.size, 2, none⟩ = some (.int .i64 fi) ∧ y.cell? ⟨w.heap.size, 3, none⟩ = some (.int .i64 W) ∧ y.cell? ⟨w.heap.size, 4, none⟩ = some (.int .i64 R) ∧ y.cell? ⟨w.heap.size, 5, none⟩ = some (.int .i64 S) ∧ y.cell? ⟨w.heap.size, 6, none⟩ = some (.int .i64 L) ∧ y.cell? ⟨w.heap.size, 7, none⟩ = some (.int .i64 c) ∧ y.cell? ⟨w.heap.size, 8, none⟩ = some (.int .i64 t) ∧ y.cell? ⟨w.heap.size, 9, none⟩ = some (.slice (some ⟨bb, ob, none⟩) ml mc) ∧ y.cell? ⟨bb, ob + p, none⟩ = some (.slice ra r.length rc)) := Lib.hid fun y hy => by
    have h0 : y.heap[w.heap.size]? = some O := (hy.block _ (by omega)).trans hrow
    rw [← hO] at h0
    refine ⟨?_, ?_, ?_, ?_, ?_, ?_, ?_, ?_, ?_, ?_, (Same.of_below hy).cell hcc⟩ <;> (unfold World.cell?; rw [h0]; rfl)
  have HB1 := Lib.hid hb1
  have HSZ := Lib.hid hsz
  clear hr hc hrow hcc hb1 hsz hp hn ht hz hf hf0 hR0 hRn
  subst hO
  go_enter Try.func67, Try.ntmps67
  have hS1 := HX.out Z (Below.refl _ _)
  obtain ⟨q0, q1, q2, q3, q4, q5, q6, q7, q8, q9, q10⟩ := hS1
  go_upto_region 7 with fail
  clear hZ q0 q1 q2 q3 q4 q5 q6 q7 q8 q9 q10
  refine region_T (S := fun wx => wx.cell? ⟨w.heap.size, 0, none⟩ = some (.int .i64 sz) ∧ wx.cell? ⟨w.heap.size, 1, none⟩ = some (.int .i64 ch) ∧ wx.cell? ⟨w.heap.size, 2, none⟩ = some (.int .i64 fi) ∧ wx.cell? ⟨w.heap.size, 3, none⟩ = some (.int .i64 W) ∧ wx.cell? ⟨w.heap.size, 4, none⟩ = some (.int .i64 R) ∧ wx.cell? ⟨w.heap.size, 5, none⟩ = some (.int .i64 S) ∧ wx.cell? ⟨w.heap.size, 6, none⟩ = some (.int .i64 L) ∧ wx.cell? ⟨w.heap.size, 7, none⟩ = some (.int .i64 c) ∧ wx.cell? ⟨w.heap.size, 8, none⟩ = some (.int .i64 t) ∧ wx.cell? ⟨w.heap.size, 9, none⟩ = some (.slice (some ⟨bb, ob, none⟩) ml mc) ∧ wx.cell? ⟨bb, ob + p, none⟩ = some (.slice ra r.length rc)) [] (by kernel_rfl) (HX.out _ (below_drew (Below.refl _ Z))) (fun _ => ?_)
  have hS0 := HX.out _ (below_drew (Below.refl _ Z))
  have HBZ : Hid (Below Z.heap.size Z Z.drew) := Lib.hid (below_drew (Below.refl _ Z))
  generalize Z.drew = Y at *
  refine anyT_take (i := 1) (v := ?_) rfl (by kernel_rfl) (by kernel_rfl) (by kernel_rfl) (by kernel_rfl) (fun _ _ _ h => h) (Or.inl ⟨by rfl, ?_⟩) (by assumption) ?_
  rotate_left
  focus ((intro wq hSw; (try dsimp only at hSw); go_simp); try with_reducible rfl)
  try simp only [Act.put, List.getElem_toArray, List.getElem_cons_succ, List.getElem_cons_zero, List.setIfInBounds_toArray, List.set_cons_zero, List.set_cons_succ]
  refine anyT_take (i := 2) (v := ?_) rfl (by kernel_rfl) (by kernel_rfl) (by kernel_rfl) (by kernel_rfl) (fun _ _ _ h => h) (Or.inl ⟨by rfl, ?_⟩) (by assumption) ?_
  rotate_left
  focus ((intro wq hSw; (try dsimp only at hSw); go_simp); try with_reducible rfl)
  try simp only [Act.put, List.getElem_toArray, List.getElem_cons_succ, List.getElem_cons_zero, List.setIfInBounds_toArray, List.set_cons_zero, List.set_cons_succ]
  refine anyT_take (i := 3) (v := ?_) rfl (by kernel_rfl) (by kernel_rfl) (by kernel_rfl) (by kernel_rfl) (fun _ _ _ h => h) (Or.inl ⟨by rfl, ?_⟩) (by assumption) ?_
  rotate_left
  focus ((intro wq hSw; (try dsimp only at hSw); go_simp); try with_reducible rfl)
  try simp only [Act.put, List.getElem_toArray, List.getElem_cons_succ, List.getElem_cons_zero, List.setIfInBounds_toArray, List.set_cons_zero, List.set_cons_succ]
  refine anyT_take (i := 4) (v := ?_) rfl (by kernel_rfl) (by kernel_rfl) (by kernel_rfl) (by kernel_rfl) (fun _ _ _ h => h) (Or.inl ⟨by rfl, ?_⟩) (by assumption) ?_
  rotate_left
  focus ((intro wq hSw; (try dsimp only at hSw); go_simp); try with_reducible rfl)
  try simp only [Act.put, List.getElem_toArray, List.getElem_cons_succ, List.getElem_cons_zero, List.setIfInBounds_toArray, List.set_cons_zero, List.set_cons_succ]
  refine anyT_take (i := 5) (v := ?_) rfl (by kernel_rfl) (by kernel_rfl) (by kernel_rfl) (by kernel_rfl) (fun _ _ _ h => h) (Or.inl ⟨by rfl, ?_⟩) (by assumption) ?_
  rotate_left
  focus ((intro wq hSw; (try dsimp only at hSw); go_simp); try with_reducible rfl)
  try simp only [Act.put, List.getElem_toArray, List.getElem_cons_succ, List.getElem_cons_zero, List.setIfInBounds_toArray, List.set_cons_zero, List.set_cons_succ]
  refine anyT_take (i := 6) (v := ?_) rfl (by kernel_rfl) (by kernel_rfl) (by kernel_rfl) (by kernel_rfl) (fun _ _ _ h => h) (Or.inl ⟨by rfl, ?_⟩) (by assumption) ?_
  rotate_left
  focus ((intro wq hSw; (try dsimp only at hSw); go_simp); try with_reducible rfl)
  try simp only [Act.put, List.getElem_toArray, List.getElem_cons_succ, List.getElem_cons_zero, List.setIfInBounds_toArray, List.set_cons_zero, List.set_cons_succ]
  refine anyT_take (i := 7) (v := ?_) rfl (by kernel_rfl) (by kernel_rfl) (by kernel_rfl) (by kernel_rfl) (fun _ _ _ h => h) (Or.inl ⟨by rfl, ?_⟩) (by assumption) ?_
  rotate_left
  focus ((intro wq hSw; (try dsimp only at hSw); go_simp); try with_reducible rfl)
  try simp only [Act.put, List.getElem_toArray, List.getElem_cons_succ, List.getElem_cons_zero, List.setIfInBounds_toArray, List.set_cons_zero, List.set_cons_succ]
  refine anyT_two (i := 0) (j := 8) (by kernel_rfl) rfl rfl (fun K hK => ?_) (fun K hK => ?_)
  · skip
    go_simp
    have HA : Hid (Below Z.heap.size Z (Y.alloc (.cells #[] 3))) := Lib.hid (Below.then HBZ.out (Nat.le_refl _) ((Below.refl _ _).alloc (Nat.le_refl _) _))
    have HAO : Hid ((Y.alloc (.cells #[] 3)).ownsRow Z.heap.size 3 1 (.slice (some ⟨Y.heap.size, 0, none⟩) 0 0) 0 (([] : List Int).map (Value.int .i64))) := Lib.hid (owns_base (World.ownsRow_made Y #[] 0 (Nat.le_refl _) (by simp) (by simp)) HBZ.out.size)
    have hSA := HX.out _ HA.out
    refine hK.out _ _ (fun _ => hSA) ?_
    clear hK K
    try simp only [Act.put, List.getElem_toArray, List.getElem_cons_succ, List.getElem_cons_zero, List.setIfInBounds_toArray, List.set_cons_zero, List.set_cons_succ]
    refine anyT_one (i := 8) (by kernel_rfl) rfl (fun K hK => ?_)
    go_simp
    refine (HP.out _).mono ?_
    rintro e x1 ⟨rfl, bx1⟩
    have Hb1' := Lib.hid bx1
    go_simp
    have Hx1 := Lib.hid (Below.then HA.out (Nat.le_refl _) bx1)
    clear bx1
    have hSx1 := HX.out _ Hx1.out
    refine hK.out _ _ (fun _ => hSx1) ?_
    clear hK K
    try simp only [Act.put, List.getElem_toArray, List.getElem_cons_succ, List.getElem_cons_zero, List.setIfInBounds_toArray, List.set_cons_zero, List.set_cons_succ]
    refine anyT_take (i := 9) (v := ?_) rfl (by kernel_rfl) (by kernel_rfl) (by kernel_rfl) (by kernel_rfl) (fun _ _ _ h => h) (Or.inl ⟨by rfl, ?_⟩) (by assumption) ?_
    rotate_left
    focus ((intro wq hSw; (try dsimp only at hSw); go_simp); try with_reducible rfl)
    try simp only [Act.put, List.getElem_toArray, List.getElem_cons_succ, List.getElem_cons_zero, List.setIfInBounds_toArray, List.set_cons_zero, List.set_cons_succ]
    refine anyT_take (i := 10) (v := ?_) rfl (by kernel_rfl) (by kernel_rfl) (by kernel_rfl) (by kernel_rfl) (fun _ _ _ h => h) (Or.inl ⟨by rfl, ?_⟩) (by assumption) ?_
    rotate_left
    focus ((intro wq hSw; (try dsimp only at hSw); go_simp); try with_reducible rfl)
    try simp only [Act.put, List.getElem_toArray, List.getElem_cons_succ, List.getElem_cons_zero, List.setIfInBounds_toArray, List.set_cons_zero, List.set_cons_succ]
    have HAO1 := Lib.hid (owns_below HAO.out (w' := x1) Hb1'.out)
    refine anyT_one (i := 11) (by kernel_rfl) rfl (fun K hK => ?_)
    refine op_append_ints rfl (.tmp 18) (.tmp 28) rfl Z.heap.size _ 0 [] rfl HAO1.out ra r.length rc rfl r rfl (src_of (HR.out.mono (Same.of_below (HB1.out.trans (Hx1.out.mono (by rw [HSZ.out]; omega))))) rfl) (by have := HRL.out.1; omega) Hx1.out.size ?_
    intro v2 w2 o2 g2 m2
    have HF : Hid (Below Z.heap.size Z w2) := Lib.hid (Hx1.out.grown g2 Hx1.out.size (fun k e => (HAO1.out.lt k e).1))
    rw [Nat.zero_add, List.nil_append] at o2
    have HO2 := Lib.hid o2
    clear o2 g2 m2
    have hSF := HX.out _ HF.out
    refine hK.out _ _ (fun _ => hSF) ?_
    clear hK K
    try simp only [Act.put, List.getElem_toArray, List.getElem_cons_succ, List.getElem_cons_zero, List.setIfInBounds_toArray, List.set_cons_zero, List.set_cons_succ]
    refine anyT_one (i := 12) (by kernel_rfl) rfl (fun K hK => ?_)
    go_simp
    refine hK.out _ _ (fun _ => hSF) ?_
    clear hK K
    try simp only [Act.put, List.getElem_toArray, List.getElem_cons_succ, List.getElem_cons_zero, List.setIfInBounds_toArray, List.set_cons_zero, List.set_cons_succ]
    refine anyT_one (i := 13) (by kernel_rfl) rfl (fun K hK => ?_)
    go_simp
    refine hK.out _ _ (fun _ => hSF) ?_
    clear hK K
    try simp only [Act.put, List.getElem_toArray, List.getElem_cons_succ, List.getElem_cons_zero, List.setIfInBounds_toArray, List.set_cons_zero, List.set_cons_succ]
    refine anyT_done (by kernel_rfl) ?_ _
    go_wp2_with fail
    go_ret2
    exact ⟨v2, rfl, ⟨owns_base HO2.out (by rw [HSZ.out]; omega), HRL.out.2⟩, HB1.out.trans (HF.out.mono (by rw [HSZ.out]; omega))⟩
  · skip
    go_simp
    refine (HP.out _).mono ?_
    rintro e x1 ⟨rfl, bx1⟩
    have Hb1' := Lib.hid bx1
    go_simp
    have Hx1 := Lib.hid (Below.then HBZ.out (Nat.le_refl _) bx1)
    clear bx1
    have hSx1 := HX.out _ Hx1.out
    refine hK.out _ _ (fun _ => hSx1) ?_
    clear hK K
    try simp only [Act.put, List.getElem_toArray, List.getElem_cons_succ, List.getElem_cons_zero, List.setIfInBounds_toArray, List.set_cons_zero, List.set_cons_succ]
    refine anyT_take (i := 9) (v := ?_) rfl (by kernel_rfl) (by kernel_rfl) (by kernel_rfl) (by kernel_rfl) (fun _ _ _ h => h) (Or.inl ⟨by rfl, ?_⟩) (by assumption) ?_
    rotate_left
    focus ((intro wq hSw; (try dsimp only at hSw); go_simp); try with_reducible rfl)
    try simp only [Act.put, List.getElem_toArray, List.getElem_cons_succ, List.getElem_cons_zero, List.setIfInBounds_toArray, List.set_cons_zero, List.set_cons_succ]
    refine anyT_take (i := 10) (v := ?_) rfl (by kernel_rfl) (by kernel_rfl) (by kernel_rfl) (by kernel_rfl) (fun _ _ _ h => h) (Or.inl ⟨by rfl, ?_⟩) (by assumption) ?_
    rotate_left
    focus ((intro wq hSw; (try dsimp only at hSw); go_simp); try with_reducible rfl)
    try simp only [Act.put, List.getElem_toArray, List.getElem_cons_succ, List.getElem_cons_zero, List.setIfInBounds_toArray, List.set_cons_zero, List.set_cons_succ]
    refine anyT_one (i := 0) (by kernel_rfl) rfl (fun K hK => ?_)
    go_simp
    have HA : Hid (Below Z.heap.size Z (x1.alloc (.cells #[] 3))) := Lib.hid (Below.then Hx1.out (Nat.le_refl _) ((Below.refl _ _).alloc (Nat.le_refl _) _))
    have HAO : Hid ((x1.alloc (.cells #[] 3)).ownsRow Z.heap.size 3 1 (.slice (some ⟨x1.heap.size, 0, none⟩) 0 0) 0 (([] : List Int).map (Value.int .i64))) := Lib.hid (owns_base (World.ownsRow_made x1 #[] 0 (Nat.le_refl _) (by simp) (by simp)) Hx1.out.size)
    have hSA := HX.out _ HA.out
    refine hK.out _ _ (fun _ => hSA) ?_
    clear hK K
    try simp only [Act.put, List.getElem_toArray, List.getElem_cons_succ, List.getElem_cons_zero, List.setIfInBounds_toArray, List.set_cons_zero, List.set_cons_succ]
    refine anyT_one (i := 11) (by kernel_rfl) rfl (fun K hK => ?_)
    refine op_append_ints rfl (.tmp 18) (.tmp 28) rfl Z.heap.size _ 0 [] rfl HAO.out ra r.length rc rfl r rfl (src_of (HR.out.mono (Same.of_below (HB1.out.trans (HA.out.mono (by rw [HSZ.out]; omega))))) rfl) (by have := HRL.out.1; omega) HA.out.size ?_
    intro v2 w2 o2 g2 m2
    have HF : Hid (Below Z.heap.size Z w2) := Lib.hid (HA.out.grown g2 HA.out.size (fun k e => (HAO.out.lt k e).1))
    rw [Nat.zero_add, List.nil_append] at o2
    have HO2 := Lib.hid o2
    clear o2 g2 m2
    have hSF := HX.out _ HF.out
    refine hK.out _ _ (fun _ => hSF) ?_
    clear hK K
    try simp only [Act.put, List.getElem_toArray, List.getElem_cons_succ, List.getElem_cons_zero, List.setIfInBounds_toArray, List.set_cons_zero, List.set_cons_succ]
    refine anyT_one (i := 12) (by kernel_rfl) rfl (fun K hK => ?_)
    go_simp
    refine hK.out _ _ (fun _ => hSF) ?_
    clear hK K
    try simp only [Act.put, List.getElem_toArray, List.getElem_cons_succ, List.getElem_cons_zero, List.setIfInBounds_toArray, List.set_cons_zero, List.set_cons_succ]
    refine anyT_one (i := 13) (by kernel_rfl) rfl (fun K hK => ?_)
    go_simp
    refine hK.out _ _ (fun _ => hSF) ?_
    clear hK K
    try simp only [Act.put, List.getElem_toArray, List.getElem_cons_succ, List.getElem_cons_zero, List.setIfInBounds_toArray, List.set_cons_zero, List.set_cons_succ]
    refine anyT_done (by kernel_rfl) ?_ _
    go_wp2_with fail
    go_ret2
    exact ⟨v2, rfl, ⟨owns_base HO2.out (by rw [HSZ.out]; omega), HRL.out.2⟩, HB1.out.trans (HF.out.mono (by rw [HSZ.out]; omega))⟩
end Go.Proofs.Ytgcohmlapgnbdaa
