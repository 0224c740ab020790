/- The turn done. -/
import Derived.Test.YtgcohmlapgnbdaaUJ
namespace Go.Proofs.Ytgcohmlapgnbdaa
open Go.RowKit Go.Shelf Go.Deep
variable {B0 B P R P0 : Nat} {l : List (List Int)} {s : Pl} {x : World}

theorem Rk.all {W : World} {rows : List (List Int)} {vals : List Value} {v : Value} (h : Rk B W rows.length rows vals v) : W.ownsRow B 39 1 v rows.length vals := by
  have := h.own
  rw [List.take_of_length_le (by rw [h.len]; exact Nat.le_refl _)] at this
  exact this
theorem getD_app_lt {α : Type} {l m : List α} {d : α} {j : Nat} (h : j < l.length) : (l ++ m).getD j d = l.getD j d := by simp [List.getD, List.getElem?_append_left h]
theorem getD_app_ge {α : Type} {l m : List α} {d : α} {j : Nat} (h : l.length ≤ j) : (l ++ m).getD j d = m.getD (j - l.length) d := by simp [List.getD, List.getElem?_append_right h]
/-- Rows of rows joined: the one's own row grows, or moves. -/
theorem rk_join {W : World} {o g : List (List Int)} {os gs : List Value} {ov gv : Value} (ho : Rk B W o.length o os ov) (hg : Rk B W g.length g gs gv) (hb : B ≤ W.heap.size) (hn : o.length + g.length ≤ 100000) :
    ∃ v' w', (Builtin.append_ #[29, 29] 29 #[ov, gv]).run Try.prog W = .ok v' w' ∧ Rk B w' (o ++ g).length (o ++ g) (os ++ gs) v' ∧ W.grownBy w' ov.ownBlock ∧ Moved W ov v' := by
  obtain ⟨i1, hi1, hy0, hy1, hy2⟩ := info_parts Try.info39
  obtain ⟨p, c, hp⟩ := slice_owns hg.own
  by_cases h0 : g.length = 0
  · obtain rfl : g = [] := List.eq_nil_of_length_eq_zero h0
    obtain rfl : gs = [] := List.eq_nil_of_length_eq_zero (by rw [hg.len]; rfl)
    subst hp
    refine ⟨ov, W, run_append_zero W B 29 29 39 i1 1 Try.underlying29 hi1 ov o.length os ho.all p c, by rw [List.append_nil, List.append_nil]; exact ho, ⟨rfl, rfl, rfl, Nat.le_refl _, fun _ _ _ => rfl⟩, .inl rfl⟩
  · have hga := hg.all
    have hcells : ∃ ad, p = some ad ∧ ∀ j u, gs[j]? = some u → W.cell? (ad.add j) = some u := by
      rcases hga.2 with ⟨_, h1⟩ | ⟨q, cap, cur, h1, _⟩
      · omega
      · rw [hp] at h1
        cases h1
        exact ⟨_, rfl, fun j u hu => hga.cells (g := q) (by rw [hp]; rfl) j u hu⟩
    obtain ⟨ad, rfl, hcell⟩ := hcells
    obtain ⟨v', w', hrun, h2, h3, h4⟩ := run_append_moves (P := Try.prog) W B 29 29 39 i1 (.slice none 0 0) 1 24 Try.underlying29 hi1 hy0 hy1 hy2 rfl (by decide) ov o.length os ho.all ad g.length c gs (by rw [hg.len]; omega) hcell
      (fun u hu => by
        obtain ⟨j, hj, rfl⟩ := List.getElem_of_mem hu
        have h := (hg.row j (by rw [← hg.len]; exact hj)).1
        rw [show gs.getD j undef = gs[j] by simp [List.getD, hj]] at h
        obtain ⟨a1, a2, e⟩ := slice_owns h
        rw [e]; rfl)
      (by unfold maxLen; omega) (by omega) hb
    rw [hp]
    refine ⟨v', w', hrun, ?_, h3, h4⟩
    have keep : ∀ {r : List Int} {u : Value}, W.ownsRow B 3 1 u r.length (r.map (Value.int .i64)) → w'.ownsRow B 3 1 u r.length (r.map (Value.int .i64)) := fun h => owns_keep h fun q hq => h3.block q (h.lt q hq).2 fun e => owns_diff h ho.own (by decide) q hq e.symm
    refine ⟨by rw [List.length_append, List.length_append, ho.len, hg.len], by rw [List.take_of_length_le (by simp [ho.len, hg.len]), List.length_append]; exact h2, fun j hj => ?_, fun j hj => ?_⟩
    · rw [List.length_append] at hj
      by_cases hlt : j < o.length
      · rw [getD_app_lt (by rw [ho.len]; exact hlt), getD_app_lt hlt]
        have := keep (ho.row j hlt).1
        exact ⟨this, fun q hq e => owns_diff this h2 (by decide) q hq e⟩
      · rw [getD_app_ge (by rw [ho.len]; omega), getD_app_ge (by omega), ho.len]
        have := keep (hg.row (j - o.length) (by omega)).1
        exact ⟨this, fun q hq e => owns_diff this h2 (by decide) q hq e⟩
    · rw [List.length_append] at hj
      by_cases hlt : j < o.length
      · rw [getD_app_lt hlt]; exact ho.ok j hlt
      · rw [getD_app_ge (by omega)]; exact hg.ok _ (by omega)
theorem PlMem.doned {y : World} {fv gv rv rv' : Value} {gs rs rs' : List Value} {out' : List (List Int)} (h : PlMem B0 B P R P0 l s fv gv rv gs rs x) (hg : x.grownBy y rv.ownBlock) (hr : Rk B y out'.length out' rs' rv') :
    PlMem B0 B P R P0 l { s with got := [], out := out' } fv nilS rv' [] rs' ((y.setCell ⟨P0, 4, none⟩ rv').setCell ⟨P0, 3, none⟩ nilS) := by
  have hlo : ∀ k, k < B → y.heap[k]? = x.heap[k]? := fun k hk => hg.block k (by have := h.lt.2; omega) (fun e => by have := (h.out.own.lt k e.symm).1; omega)
  have hgs : ∀ k, k ≠ P0 → ((y.setCell ⟨P0, 4, none⟩ rv').setCell ⟨P0, 3, none⟩ nilS).heap[k]? = y.heap[k]? := fun k hk => (blk_setCell_other _ _ _ _ (fun e => hk e)).trans (blk_setCell_other _ _ _ _ (fun e => hk e))
  exact {
    ring := h.ring.of_blocks ((hgs _ h.ne.1).trans (hlo _ h.lt.1.1)) ((hgs _ h.ne.2).trans (hlo _ h.lt.1.2.1))
    row := (((h.row.of_block (hlo _ h.lt.1.2.2)).set 4 rv').set 3 nilS).congr fun i hi => by
      match i with
      | 0 => rfl
      | 1 => rfl
      | 2 => rfl
      | 3 => rfl
      | 4 => rfl
    ne := h.ne
    lt := ⟨h.lt.1, by have := h.lt.2; have := hg.size; simp; omega⟩
    lo := h.lo
    mat := h.mat.keep fun k hk => (hgs k (by have := h.lo.1.2.2; omega)).trans (hlo k (by have := h.lo.2; omega))
    got := Rk.start _ _
    out := hr.keep fun g h1 _ => hgs g (by have := h.lt.1.2.2; omega)
    apart := fun g hg1 => by cases hg1 }
theorem op_append {ops : Array Oper} {o : Oper} {a : Act} {w w' : World} {K : Act → World → Prop} {Q : Exit → Act → World → Prop} {ov gv v : Value} {X : Prop} (hgd : o.guard = none) (sx xx : Operand)
    (ho : o.op = .call { callee := .builtin .append, args := #[sx, xx], argTypes := #[29, 29] }) (hr : (Builtin.append_ #[29, 29] o.type #[ov, gv]).run Try.prog w = .ok v w') (hs : a.eval sx = ov) (hx : a.eval xx = gv)
    (h : K (a.put o.dst v) w') : if Region.wanted o (yielded ops a.tmps) = true then Oper.wp Try.prog o a w K Q else X := by
  rw [if_pos (by simp [Region.wanted, hgd])]
  unfold Oper.wp execOp
  simp only [ho, resolve, invoke, builtin, Sem.run_bind, Sem.run_pure, Result.andThen_ok, List.map_toArray, List.map_cons, List.map_nil, hs, hx, hr]
  exact h
def doneP (s : Pl) : Pl := { s with g := doneR s.g s.got.length, out := s.out ++ s.got, got := [] }
set_option maxHeartbeats 1000000 in
set_option maxRecDepth 100000 in
theorem doneT (n : Int) (h : PlAt B0 B P R P0 l s x) (hl : s.out.length + s.got.length ≤ 10000) : Calls Try.prog 113 #[.pointer (some ⟨P0, 0, none⟩), .int .i64 n] x (Turned B0 B P R P0 l (doneP s) x) := by
  obtain ⟨fv, gv, rv, gs, rs, hm⟩ := h
  obtain ⟨ga, gc, rfl⟩ := hm.got.gl
  obtain ⟨ra, rc, rfl⟩ := hm.out.gl
  have c0 : x.cell? ⟨P0, 0, none⟩ = some (.pointer (some ⟨P, 0, none⟩)) := hm.row.cell (i := 0) (by decide)
  have c3 : x.cell? ⟨P0, 3, none⟩ = some (.slice ga s.got.length gc) := hm.row.cell (i := 3) (by decide)
  have hcl := done_any P R s.g s.got.length (x.drewN 1) (hm.ring.below (below_drewN (Below.refl _ _) 1))
  have HG : Hid (Gw P R x (x.drewN 1)) := Lib.hid ((Gw.refl P R x).drewN 1)
  have HM := Lib.hid hm
  have HL := Lib.hid hl
  clear hm hl
  go_enter Try.func113, Try.ntmps113
  go_upto_region 1 with fail
  go_still_tail 9, (by kernel_rfl)
  change wpList _ _ _ _ _ (x.drewN 1)
  generalize x.drewN 1 = W at *
  go_upto_region 1 with (go_at_call 17; (with_reducible refine hcl.mono ?_); rintro e w2 ⟨rfl, hr, hg⟩; have HM2 := Lib.hid (HM.out.ringed hr (HG.out.trans hg)); have HG2 := Lib.hid (HG.out.trans hg); clear hr hg hcl c0 c3)
  have HMD := Lib.hid (HM2.out.below (below_drew (Below.refl _ w2)))
  obtain ⟨v4, w4, hrun, hrk, hgr, hmv⟩ := rk_join HMD.out.out HMD.out.got HMD.out.lt.2 (by have := HL.out; show s.out.length + s.got.length ≤ 100000; omega)
  obtain ⟨va, vc, rfl⟩ := hrk.gl
  have hrow : w4.rowIs P0 112 5 (plVal P fv s.put (.slice ga s.got.length gc) (.slice ra s.out.length rc)) := HMD.out.row.of_block (hgr.block P0 HMD.out.row.lt (fun e => by have := (HMD.out.out.own.lt P0 e.symm).1; have := HMD.out.lt.1.2.2; omega))
  have m3 : w2.cell? ⟨P0, 3, none⟩ = some (.slice ga s.got.length gc) := HM2.out.row.cell (i := 3) (by decide)
  have m4 : w2.cell? ⟨P0, 4, none⟩ = some (.slice ra s.out.length rc) := HM2.out.row.cell (i := 4) (by decide)
  have q3 : w4.cell? ⟨P0, 3, none⟩ = some (.slice ga s.got.length gc) := hrow.cell (i := 3) (by decide)
  have z3 := hrow.frozen 3
  have q4 : w4.cell? ⟨P0, 4, none⟩ = some (.slice ra s.out.length rc) := hrow.cell (i := 4) (by decide)
  have z4 := hrow.frozen 4
  have hS4 : w2.drew.cell? ⟨P0, 4, none⟩ = some (.slice ra s.out.length rc) := m4
  have hSA : w2.drew.cell? ⟨P0, 3, none⟩ = some (.slice ga s.got.length gc) := m3
  have hSB : w4.cell? ⟨P0, 3, none⟩ = some (.slice ga s.got.length gc) := q3
  have hSC : (w4.setCell ⟨P0, 4, none⟩ (.slice va (s.out ++ s.got).length vc)).cell? ⟨P0, 3, none⟩ = some (.slice ga s.got.length gc) := (hrow.set 4 (.slice va (s.out ++ s.got).length vc)).cell (i := 3) (by decide)
  have hlo : B0 ≤ P0 := HMD.out.lo.1.2.2
  have hb0 : Below B0 x w4 := ((gw_low HM.out HG2.out).drew).grown hgr (by have := HMD.out.lt.2; have := HMD.out.lo.2; omega) (fun k e => by have := (HMD.out.out.own.lt k e).1; have := HMD.out.lo.2; omega)
  have HFIN : Hid (Turned B0 B P R P0 l (doneP s) x (.returned (.tuple #[])) ((w4.setCell ⟨P0, 4, none⟩ (.slice va (s.out ++ s.got).length vc)).setCell ⟨P0, 3, none⟩ (.slice none 0 0))) := Lib.hid
    ⟨rfl, ⟨_, _, _, _, _, HMD.out.doned hgr hrk⟩, ((((gw_k115 HM.out.ring HG2.out).trans (k115_below (below_drew (Below.refl _ _)))).trans (k115_grown HMD.out.out.own (by decide) hgr)).trans (k115_set hrow (by decide) 4 _)).trans (k115_set (hrow.set 4 _) (by decide) 3 _), low_set (low_set hb0 hlo) hlo⟩
  clear hrk hgr hmv m3 hb0 hlo
  generalize (s.out ++ s.got).length = vn at *
  refine region_T (S := fun wx => wx.cell? ⟨P0, 3, none⟩ = some (.slice ga s.got.length gc)) [16] (by kernel_rfl) hSA (fun _ => ?_)
  generalize w2.drew = W2 at *
  refine anyT_take (i := 0) (v := ?_) rfl (by kernel_rfl) (by kernel_rfl) (by kernel_rfl) (by kernel_rfl) (fun _ _ _ h => h) (Or.inl ⟨by rfl, ?_⟩) (by assumption) ?_
  rotate_left
  focus ((intro wq hSw; (try dsimp only at hSw); go_simp); try with_reducible rfl)
  try simp only [Act.put, List.getElem_toArray, List.getElem_cons_succ, List.getElem_cons_zero, List.setIfInBounds_toArray, List.set_cons_zero, List.set_cons_succ]
  refine anyT_take (i := 2) (v := ?_) rfl (by kernel_rfl) (by kernel_rfl) (by kernel_rfl) (by kernel_rfl) (fun _ _ _ h => h) (Or.inl ⟨by rfl, ?_⟩) (by assumption) ?_
  rotate_left
  focus ((intro wq hSw; (try dsimp only at hSw); go_simp); try with_reducible rfl)
  try simp only [Act.put, List.getElem_toArray, List.getElem_cons_succ, List.getElem_cons_zero, List.setIfInBounds_toArray, List.set_cons_zero, List.set_cons_succ]
  refine anyT_take (i := 3) (v := ?_) rfl (by kernel_rfl) (by kernel_rfl) (by kernel_rfl) (by kernel_rfl) (fun _ _ _ h => h) (Or.inl ⟨by rfl, ?_⟩) (by assumption) ?_
  rotate_left
  focus ((intro wq hSw; (try dsimp only at hSw); go_simp); try with_reducible rfl)
  try simp only [Act.put, List.getElem_toArray, List.getElem_cons_succ, List.getElem_cons_zero, List.setIfInBounds_toArray, List.set_cons_zero, List.set_cons_succ]
  refine anyT_take (i := 4) (v := ?_) rfl (by kernel_rfl) (by kernel_rfl) (by kernel_rfl) (by kernel_rfl) (fun _ _ _ h => h) (Or.inl ⟨by rfl, ?_⟩) (by assumption) ?_
  rotate_left
  focus ((intro wq hSw; (try dsimp only at hSw); go_simp); try with_reducible rfl)
  try simp only [Act.put, List.getElem_toArray, List.getElem_cons_succ, List.getElem_cons_zero, List.setIfInBounds_toArray, List.set_cons_zero, List.set_cons_succ]
  refine anyT_take (i := 6) (v := ?_) rfl (by kernel_rfl) (by kernel_rfl) (by kernel_rfl) (by kernel_rfl) (fun _ _ _ h => h) (Or.inl ⟨by rfl, ?_⟩) (by assumption) ?_
  rotate_left
  focus ((intro wq hSw; (try dsimp only at hSw); go_simp); try with_reducible rfl)
  try simp only [Act.put, List.getElem_toArray, List.getElem_cons_succ, List.getElem_cons_zero, List.setIfInBounds_toArray, List.set_cons_zero, List.set_cons_succ]
  refine anyT_take (i := 7) (v := ?_) rfl (by kernel_rfl) (by kernel_rfl) (by kernel_rfl) (by kernel_rfl) (fun _ _ _ h => h) (Or.inl ⟨by rfl, ?_⟩) (by assumption) ?_
  rotate_left
  focus ((intro wq hSw; (try dsimp only at hSw); go_simp); try with_reducible rfl)
  try simp only [Act.put, List.getElem_toArray, List.getElem_cons_succ, List.getElem_cons_zero, List.setIfInBounds_toArray, List.set_cons_zero, List.set_cons_succ]
  refine anyT_take (i := 8) (v := ?_) rfl (by kernel_rfl) (by kernel_rfl) (by kernel_rfl) (by kernel_rfl) (fun _ _ _ h => h) (Or.inl ⟨by rfl, ?_⟩) (by assumption) ?_
  rotate_left
  focus ((intro wq hSw; (try dsimp only at hSw); go_simp); try with_reducible rfl)
  try simp only [Act.put, List.getElem_toArray, List.getElem_cons_succ, List.getElem_cons_zero, List.setIfInBounds_toArray, List.set_cons_zero, List.set_cons_succ]
  refine anyT_take (i := 9) (v := ?_) rfl (by kernel_rfl) (by kernel_rfl) (by kernel_rfl) (by kernel_rfl) (fun _ _ _ h => h) (Or.inl ⟨by rfl, ?_⟩) (by assumption) ?_
  rotate_left
  focus ((intro wq hSw; (try dsimp only at hSw); go_simp); try with_reducible rfl)
  try simp only [Act.put, List.getElem_toArray, List.getElem_cons_succ, List.getElem_cons_zero, List.setIfInBounds_toArray, List.set_cons_zero, List.set_cons_succ]
  refine anyT_two (i := 1) (j := 5) (by kernel_rfl) rfl rfl (fun K hK => ?_) (fun K hK => ?_)
  · skip
    go_simp
    refine hK.out _ _ (fun h => hSA) ?_
    clear hK K
    try simp only [Act.put, List.getElem_toArray, List.getElem_cons_succ, List.getElem_cons_zero, List.setIfInBounds_toArray, List.set_cons_zero, List.set_cons_succ]
    refine anyT_one (i := 5) (by kernel_rfl) rfl (fun K hK => ?_)
    go_simp
    refine hK.out _ _ (fun h => hSA) ?_
    clear hK K
    try simp only [Act.put, List.getElem_toArray, List.getElem_cons_succ, List.getElem_cons_zero, List.setIfInBounds_toArray, List.set_cons_zero, List.set_cons_succ]
    refine anyT_one (i := 10) (by kernel_rfl) rfl (fun K hK => ?_)
    refine op_append rfl (.tmp 19) (.tmp 23) rfl hrun rfl rfl ?_
    refine hK.out _ _ (fun h => hSB) ?_
    clear hK K
    try simp only [Act.put, List.getElem_toArray, List.getElem_cons_succ, List.getElem_cons_zero, List.setIfInBounds_toArray, List.set_cons_zero, List.set_cons_succ]
    refine anyT_one (i := 11) (by kernel_rfl) rfl (fun K hK => ?_)
    go_simp
    refine hK.out _ _ (fun h => hSB) ?_
    clear hK K
    try simp only [Act.put, List.getElem_toArray, List.getElem_cons_succ, List.getElem_cons_zero, List.setIfInBounds_toArray, List.set_cons_zero, List.set_cons_succ]
    refine anyT_one (i := 12) (by kernel_rfl) rfl (fun K hK => ?_)
    go_simp
    refine hK.out _ _ (fun h => hSB) ?_
    clear hK K
    try simp only [Act.put, List.getElem_toArray, List.getElem_cons_succ, List.getElem_cons_zero, List.setIfInBounds_toArray, List.set_cons_zero, List.set_cons_succ]
    refine anyT_one (i := 13) (by kernel_rfl) rfl (fun K hK => ?_)
    go_simp
    refine hK.out _ _ (fun h => hSC) ?_
    clear hK K
    try simp only [Act.put, List.getElem_toArray, List.getElem_cons_succ, List.getElem_cons_zero, List.setIfInBounds_toArray, List.set_cons_zero, List.set_cons_succ]
    refine anyT_one (i := 14) (by kernel_rfl) rfl (fun K hK => ?_)
    go_simp
    refine hK.out _ _ (fun h => hSC) ?_
    clear hK K
    try simp only [Act.put, List.getElem_toArray, List.getElem_cons_succ, List.getElem_cons_zero, List.setIfInBounds_toArray, List.set_cons_zero, List.set_cons_succ]
    refine anyT_one (i := 15) (by kernel_rfl) rfl (fun K hK => ?_)
    go_simp
    refine hK.out _ _ (fun h => hSC) ?_
    clear hK K
    try simp only [Act.put, List.getElem_toArray, List.getElem_cons_succ, List.getElem_cons_zero, List.setIfInBounds_toArray, List.set_cons_zero, List.set_cons_succ]
    refine anyT_one (i := 16) (by kernel_rfl) rfl (fun K hK => ?_)
    go_simp
    refine hK.out _ _ (fun h => by cases h) ?_
    clear hK K
    try simp only [Act.put, List.getElem_toArray, List.getElem_cons_succ, List.getElem_cons_zero, List.setIfInBounds_toArray, List.set_cons_zero, List.set_cons_succ]
    refine anyT_done (by kernel_rfl) ?_ _
    go_wp2_with fail
    go_end0
    exact HFIN.out
  · skip
    go_simp
    refine hK.out _ _ (fun h => hSA) ?_
    clear hK K
    try simp only [Act.put, List.getElem_toArray, List.getElem_cons_succ, List.getElem_cons_zero, List.setIfInBounds_toArray, List.set_cons_zero, List.set_cons_succ]
    refine anyT_two (i := 1) (j := 10) (by kernel_rfl) rfl rfl (fun K hK => ?_) (fun K hK => ?_)
    · skip
      go_simp
      refine hK.out _ _ (fun h => hSA) ?_
      clear hK K
      try simp only [Act.put, List.getElem_toArray, List.getElem_cons_succ, List.getElem_cons_zero, List.setIfInBounds_toArray, List.set_cons_zero, List.set_cons_succ]
      refine anyT_one (i := 10) (by kernel_rfl) rfl (fun K hK => ?_)
      refine op_append rfl (.tmp 19) (.tmp 23) rfl hrun rfl rfl ?_
      refine hK.out _ _ (fun h => hSB) ?_
      clear hK K
      try simp only [Act.put, List.getElem_toArray, List.getElem_cons_succ, List.getElem_cons_zero, List.setIfInBounds_toArray, List.set_cons_zero, List.set_cons_succ]
      refine anyT_one (i := 11) (by kernel_rfl) rfl (fun K hK => ?_)
      go_simp
      refine hK.out _ _ (fun h => hSB) ?_
      clear hK K
      try simp only [Act.put, List.getElem_toArray, List.getElem_cons_succ, List.getElem_cons_zero, List.setIfInBounds_toArray, List.set_cons_zero, List.set_cons_succ]
      refine anyT_one (i := 12) (by kernel_rfl) rfl (fun K hK => ?_)
      go_simp
      refine hK.out _ _ (fun h => hSB) ?_
      clear hK K
      try simp only [Act.put, List.getElem_toArray, List.getElem_cons_succ, List.getElem_cons_zero, List.setIfInBounds_toArray, List.set_cons_zero, List.set_cons_succ]
      refine anyT_one (i := 13) (by kernel_rfl) rfl (fun K hK => ?_)
      go_simp
      refine hK.out _ _ (fun h => hSC) ?_
      clear hK K
      try simp only [Act.put, List.getElem_toArray, List.getElem_cons_succ, List.getElem_cons_zero, List.setIfInBounds_toArray, List.set_cons_zero, List.set_cons_succ]
      refine anyT_one (i := 14) (by kernel_rfl) rfl (fun K hK => ?_)
      go_simp
      refine hK.out _ _ (fun h => hSC) ?_
      clear hK K
      try simp only [Act.put, List.getElem_toArray, List.getElem_cons_succ, List.getElem_cons_zero, List.setIfInBounds_toArray, List.set_cons_zero, List.set_cons_succ]
      refine anyT_one (i := 15) (by kernel_rfl) rfl (fun K hK => ?_)
      go_simp
      refine hK.out _ _ (fun h => hSC) ?_
      clear hK K
      try simp only [Act.put, List.getElem_toArray, List.getElem_cons_succ, List.getElem_cons_zero, List.setIfInBounds_toArray, List.set_cons_zero, List.set_cons_succ]
      refine anyT_one (i := 16) (by kernel_rfl) rfl (fun K hK => ?_)
      go_simp
      refine hK.out _ _ (fun h => by cases h) ?_
      clear hK K
      try simp only [Act.put, List.getElem_toArray, List.getElem_cons_succ, List.getElem_cons_zero, List.setIfInBounds_toArray, List.set_cons_zero, List.set_cons_succ]
      refine anyT_done (by kernel_rfl) ?_ _
      go_wp2_with fail
      go_end0
      exact HFIN.out
    · skip
      refine op_append rfl (.tmp 19) (.tmp 23) rfl hrun rfl rfl ?_
      refine hK.out _ _ (fun h => hSB) ?_
      clear hK K
      try simp only [Act.put, List.getElem_toArray, List.getElem_cons_succ, List.getElem_cons_zero, List.setIfInBounds_toArray, List.set_cons_zero, List.set_cons_succ]
      refine anyT_two (i := 1) (j := 11) (by kernel_rfl) rfl rfl (fun K hK => ?_) (fun K hK => ?_)
      · skip
        go_simp
        refine hK.out _ _ (fun h => hSB) ?_
        clear hK K
        try simp only [Act.put, List.getElem_toArray, List.getElem_cons_succ, List.getElem_cons_zero, List.setIfInBounds_toArray, List.set_cons_zero, List.set_cons_succ]
        refine anyT_one (i := 11) (by kernel_rfl) rfl (fun K hK => ?_)
        go_simp
        refine hK.out _ _ (fun h => hSB) ?_
        clear hK K
        try simp only [Act.put, List.getElem_toArray, List.getElem_cons_succ, List.getElem_cons_zero, List.setIfInBounds_toArray, List.set_cons_zero, List.set_cons_succ]
        refine anyT_one (i := 12) (by kernel_rfl) rfl (fun K hK => ?_)
        go_simp
        refine hK.out _ _ (fun h => hSB) ?_
        clear hK K
        try simp only [Act.put, List.getElem_toArray, List.getElem_cons_succ, List.getElem_cons_zero, List.setIfInBounds_toArray, List.set_cons_zero, List.set_cons_succ]
        refine anyT_one (i := 13) (by kernel_rfl) rfl (fun K hK => ?_)
        go_simp
        refine hK.out _ _ (fun h => hSC) ?_
        clear hK K
        try simp only [Act.put, List.getElem_toArray, List.getElem_cons_succ, List.getElem_cons_zero, List.setIfInBounds_toArray, List.set_cons_zero, List.set_cons_succ]
        refine anyT_one (i := 14) (by kernel_rfl) rfl (fun K hK => ?_)
        go_simp
        refine hK.out _ _ (fun h => hSC) ?_
        clear hK K
        try simp only [Act.put, List.getElem_toArray, List.getElem_cons_succ, List.getElem_cons_zero, List.setIfInBounds_toArray, List.set_cons_zero, List.set_cons_succ]
        refine anyT_one (i := 15) (by kernel_rfl) rfl (fun K hK => ?_)
        go_simp
        refine hK.out _ _ (fun h => hSC) ?_
        clear hK K
        try simp only [Act.put, List.getElem_toArray, List.getElem_cons_succ, List.getElem_cons_zero, List.setIfInBounds_toArray, List.set_cons_zero, List.set_cons_succ]
        refine anyT_one (i := 16) (by kernel_rfl) rfl (fun K hK => ?_)
        go_simp
        refine hK.out _ _ (fun h => by cases h) ?_
        clear hK K
        try simp only [Act.put, List.getElem_toArray, List.getElem_cons_succ, List.getElem_cons_zero, List.setIfInBounds_toArray, List.set_cons_zero, List.set_cons_succ]
        refine anyT_done (by kernel_rfl) ?_ _
        go_wp2_with fail
        go_end0
        exact HFIN.out
      · skip
        go_simp
        refine hK.out _ _ (fun h => hSB) ?_
        clear hK K
        try simp only [Act.put, List.getElem_toArray, List.getElem_cons_succ, List.getElem_cons_zero, List.setIfInBounds_toArray, List.set_cons_zero, List.set_cons_succ]
        refine anyT_two (i := 1) (j := 12) (by kernel_rfl) rfl rfl (fun K hK => ?_) (fun K hK => ?_)
        · skip
          go_simp
          refine hK.out _ _ (fun h => hSB) ?_
          clear hK K
          try simp only [Act.put, List.getElem_toArray, List.getElem_cons_succ, List.getElem_cons_zero, List.setIfInBounds_toArray, List.set_cons_zero, List.set_cons_succ]
          refine anyT_one (i := 12) (by kernel_rfl) rfl (fun K hK => ?_)
          go_simp
          refine hK.out _ _ (fun h => hSB) ?_
          clear hK K
          try simp only [Act.put, List.getElem_toArray, List.getElem_cons_succ, List.getElem_cons_zero, List.setIfInBounds_toArray, List.set_cons_zero, List.set_cons_succ]
          refine anyT_one (i := 13) (by kernel_rfl) rfl (fun K hK => ?_)
          go_simp
          refine hK.out _ _ (fun h => hSC) ?_
          clear hK K
          try simp only [Act.put, List.getElem_toArray, List.getElem_cons_succ, List.getElem_cons_zero, List.setIfInBounds_toArray, List.set_cons_zero, List.set_cons_succ]
          refine anyT_one (i := 14) (by kernel_rfl) rfl (fun K hK => ?_)
          go_simp
          refine hK.out _ _ (fun h => hSC) ?_
          clear hK K
          try simp only [Act.put, List.getElem_toArray, List.getElem_cons_succ, List.getElem_cons_zero, List.setIfInBounds_toArray, List.set_cons_zero, List.set_cons_succ]
          refine anyT_one (i := 15) (by kernel_rfl) rfl (fun K hK => ?_)
          go_simp
          refine hK.out _ _ (fun h => hSC) ?_
          clear hK K
          try simp only [Act.put, List.getElem_toArray, List.getElem_cons_succ, List.getElem_cons_zero, List.setIfInBounds_toArray, List.set_cons_zero, List.set_cons_succ]
          refine anyT_one (i := 16) (by kernel_rfl) rfl (fun K hK => ?_)
          go_simp
          refine hK.out _ _ (fun h => by cases h) ?_
          clear hK K
          try simp only [Act.put, List.getElem_toArray, List.getElem_cons_succ, List.getElem_cons_zero, List.setIfInBounds_toArray, List.set_cons_zero, List.set_cons_succ]
          refine anyT_done (by kernel_rfl) ?_ _
          go_wp2_with fail
          go_end0
          exact HFIN.out
        · skip
          go_simp
          refine hK.out _ _ (fun h => hSB) ?_
          clear hK K
          try simp only [Act.put, List.getElem_toArray, List.getElem_cons_succ, List.getElem_cons_zero, List.setIfInBounds_toArray, List.set_cons_zero, List.set_cons_succ]
          refine anyT_two (i := 1) (j := 13) (by kernel_rfl) rfl rfl (fun K hK => ?_) (fun K hK => ?_)
          · skip
            go_simp
            refine hK.out _ _ (fun h => hSB) ?_
            clear hK K
            try simp only [Act.put, List.getElem_toArray, List.getElem_cons_succ, List.getElem_cons_zero, List.setIfInBounds_toArray, List.set_cons_zero, List.set_cons_succ]
            refine anyT_one (i := 13) (by kernel_rfl) rfl (fun K hK => ?_)
            go_simp
            refine hK.out _ _ (fun h => hSC) ?_
            clear hK K
            try simp only [Act.put, List.getElem_toArray, List.getElem_cons_succ, List.getElem_cons_zero, List.setIfInBounds_toArray, List.set_cons_zero, List.set_cons_succ]
            refine anyT_one (i := 14) (by kernel_rfl) rfl (fun K hK => ?_)
            go_simp
            refine hK.out _ _ (fun h => hSC) ?_
            clear hK K
            try simp only [Act.put, List.getElem_toArray, List.getElem_cons_succ, List.getElem_cons_zero, List.setIfInBounds_toArray, List.set_cons_zero, List.set_cons_succ]
            refine anyT_one (i := 15) (by kernel_rfl) rfl (fun K hK => ?_)
            go_simp
            refine hK.out _ _ (fun h => hSC) ?_
            clear hK K
            try simp only [Act.put, List.getElem_toArray, List.getElem_cons_succ, List.getElem_cons_zero, List.setIfInBounds_toArray, List.set_cons_zero, List.set_cons_succ]
            refine anyT_one (i := 16) (by kernel_rfl) rfl (fun K hK => ?_)
            go_simp
            refine hK.out _ _ (fun h => by cases h) ?_
            clear hK K
            try simp only [Act.put, List.getElem_toArray, List.getElem_cons_succ, List.getElem_cons_zero, List.setIfInBounds_toArray, List.set_cons_zero, List.set_cons_succ]
            refine anyT_done (by kernel_rfl) ?_ _
            go_wp2_with fail
            go_end0
            exact HFIN.out
          · skip
            go_simp
            refine hK.out _ _ (fun h => hSC) ?_
            clear hK K
            try simp only [Act.put, List.getElem_toArray, List.getElem_cons_succ, List.getElem_cons_zero, List.setIfInBounds_toArray, List.set_cons_zero, List.set_cons_succ]
            refine anyT_one (i := 1) (by kernel_rfl) rfl (fun K hK => ?_)
            go_simp
            refine hK.out _ _ (fun h => hSC) ?_
            clear hK K
            try simp only [Act.put, List.getElem_toArray, List.getElem_cons_succ, List.getElem_cons_zero, List.setIfInBounds_toArray, List.set_cons_zero, List.set_cons_succ]
            refine anyT_one (i := 14) (by kernel_rfl) rfl (fun K hK => ?_)
            go_simp
            refine hK.out _ _ (fun h => hSC) ?_
            clear hK K
            try simp only [Act.put, List.getElem_toArray, List.getElem_cons_succ, List.getElem_cons_zero, List.setIfInBounds_toArray, List.set_cons_zero, List.set_cons_succ]
            refine anyT_one (i := 15) (by kernel_rfl) rfl (fun K hK => ?_)
            go_simp
            refine hK.out _ _ (fun h => hSC) ?_
            clear hK K
            try simp only [Act.put, List.getElem_toArray, List.getElem_cons_succ, List.getElem_cons_zero, List.setIfInBounds_toArray, List.set_cons_zero, List.set_cons_succ]
            refine anyT_one (i := 16) (by kernel_rfl) rfl (fun K hK => ?_)
            go_simp
            refine hK.out _ _ (fun h => by cases h) ?_
            clear hK K
            try simp only [Act.put, List.getElem_toArray, List.getElem_cons_succ, List.getElem_cons_zero, List.setIfInBounds_toArray, List.set_cons_zero, List.set_cons_succ]
            refine anyT_done (by kernel_rfl) ?_ _
            go_wp2_with fail
            go_end0
            exact HFIN.out
end Go.Proofs.Ytgcohmlapgnbdaa
