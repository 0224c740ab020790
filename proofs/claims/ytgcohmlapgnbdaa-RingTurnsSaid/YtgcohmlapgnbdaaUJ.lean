/- The turn getNext. -/
import Derived.Test.YtgcohmlapgnbdaaUG
namespace Go.Proofs.Ytgcohmlapgnbdaa
open Go.RowKit Go.Shelf Go.Deep
variable {B0 B P R P0 : Nat} {l : List (List Int)} {s : Pl} {x : World}

theorem owns_diff {w : World} {B B' : Nat} {e e' : TypeId} {s s' : Nat} {v v' : Value} {n n' : Nat} {xs xs' : List Value} (h : w.ownsRow B e s v n xs) (h' : w.ownsRow B' e' s' v' n' xs') (he : e ≠ e') (g : Nat) (hg : v.ownBlock = some g) : v'.ownBlock ≠ some g := by
  intro hg'
  rcases h.2 with ⟨rfl, _⟩ | ⟨g1, cap, cur, rfl, _, hgg, _⟩
  · cases hg
  · rcases h'.2 with ⟨rfl, _⟩ | ⟨g2, cap2, cur2, rfl, _, hgg2, _⟩
    · cases hg'
    · cases hg
      cases hg'
      rw [hgg] at hgg2
      cases hgg2
      exact he rfl
/-- The own row of what was got has grown, or moved. -/
theorem PlMem.gotten {y : World} {fv gv rv gv' : Value} {gs rs gs' : List Value} {got' : List (List Int)} (h : PlMem B0 B P R P0 l s fv gv rv gs rs x) (hg : x.grownBy y gv.ownBlock) (hr : Rk B y got'.length got' gs' gv') (hm : Moved x gv gv') :
    PlMem B0 B P R P0 l { s with got := got' } fv gv' rv gs' rs (y.setCell ⟨P0, 3, none⟩ gv') := by
  have hlo : ∀ k, k < B → y.heap[k]? = x.heap[k]? := fun k hk => hg.block k (by have := h.lt.2; omega) (fun e => by have := (h.got.own.lt k e.symm).1; omega)
  have hgs : ∀ k, k ≠ P0 → (y.setCell ⟨P0, 3, none⟩ gv').heap[k]? = y.heap[k]? := fun k hk => blk_setCell_other _ _ _ _ (fun e => hk e)
  have hap : Apart gv' rv := fun g hg1 hg2 => by
    rcases hm with hm | ⟨q, hq, hq2⟩
    · exact h.apart g (hm ▸ hg1) hg2
    · have := (h.out.own.lt g hg2).2
      rw [hq] at hg1; cases hg1; omega
  exact {
    ring := h.ring.of_blocks ((hgs _ h.ne.1).trans (hlo _ h.lt.1.1)) ((hgs _ h.ne.2).trans (hlo _ h.lt.1.2.1))
    row := ((h.row.of_block (hlo _ h.lt.1.2.2)).set 3 gv').congr fun i hi => by
      match i with
      | 0 => rfl
      | 1 => rfl
      | 2 => rfl
      | 3 => rfl
      | 4 => rfl
    ne := h.ne
    lt := ⟨h.lt.1, by have := h.lt.2; have := hg.size; simp; omega⟩
    lo := h.lo
    mat := h.mat.keep fun k hk => (hgs k (by have := h.lo.1.2.2; omega)).trans (hlo k (by have := h.lo.2; omega))
    got := hr.keep fun g h1 _ => hgs g (by have := h.lt.1.2.2; omega)
    out := by
      refine Rk.keep ⟨h.out.len, owns_keep h.out.own (fun g hv => hg.block g (h.out.own.lt g hv).2 (fun e => h.apart g e.symm hv)), fun j hj => ⟨owns_keep (h.out.row j hj).1 (fun g hv => hg.block g ((h.out.row j hj).1.lt g hv).2 (fun e => owns_diff (h.out.row j hj).1 h.got.own (by decide) g hv e.symm)), (h.out.row j hj).2⟩, h.out.ok⟩ fun g h1 _ => hgs g (by have := h.lt.1.2.2; omega)
    apart := hap }
def getP (s : Pl) : Pl := if getK s.g s.got.length = 0 then { s with got := s.got ++ [getL s.g s.got.length] } else s
theorem Rk.gl {W : World} {k : Nat} {rows : List (List Int)} {vals : List Value} {v : Value} (h : Rk B W k rows vals v) : ∃ p c, v = .slice p k c := slice_owns h.own
set_option maxHeartbeats 1000000 in
set_option maxRecDepth 100000 in
theorem getT (n : Int) (h : PlAt B0 B P R P0 l s x) (hok : s.g.Ok) (hl : s.got.length ≤ 5000) : Calls Try.prog 112 #[.pointer (some ⟨P0, 0, none⟩), .int .i64 n] x (Turned B0 B P R P0 l (getP s) x) := by
  obtain ⟨fv, gv, rv, gs, rs, hm⟩ := h
  obtain ⟨ga, gc, rfl⟩ := hm.got.gl
  have c0 : x.cell? ⟨P0, 0, none⟩ = some (.pointer (some ⟨P, 0, none⟩)) := hm.row.cell (i := 0) (by decide)
  have c3 : x.cell? ⟨P0, 3, none⟩ = some (.slice ga s.got.length gc) := hm.row.cell (i := 3) (by decide)
  have hcl := getM_any P R s.g s.got.length x.drew (hm.ring.below (below_drew (Below.refl _ _))) hok
  have HX : Hid (∀ y, Below x.heap.size x y → y.cell? ⟨P0, 0, none⟩ = some (.pointer (some ⟨P, 0, none⟩)) ∧ y.cell? ⟨P0, 3, none⟩ = some (.slice ga s.got.length gc)) := Lib.hid fun y hy => ⟨(hm.below hy).row.cell (i := 0) (by decide), (hm.below hy).row.cell (i := 3) (by decide)⟩
  obtain ⟨i1, hi1, hy0, hy1, hy2⟩ := info_parts Try.info39
  have HM := Lib.hid hm
  have HL := Lib.hid hl
  clear hm hl
  by_cases hk : getK s.g s.got.length = 0
  · rw [show getP s = { s with got := s.got ++ [getL s.g s.got.length] } by unfold getP; rw [if_pos hk]]
    rw [hk] at hcl
    go_enter Try.func112, Try.ntmps112
    go_upto_region 1 with fail
    refine region_T (S := fun wx => wx.cell? ⟨P0, 0, none⟩ = some (.pointer (some ⟨P, 0, none⟩)) ∧ wx.cell? ⟨P0, 3, none⟩ = some (.slice ga s.got.length gc)) [] (by kernel_rfl) (HX.out _ (below_drew (Below.refl _ _))) (fun _ => ?_)
    have hS0 := HX.out _ (below_drew (Below.refl _ x))
    have HB : Hid (Below x.heap.size x x.drew) := Lib.hid (below_drew (Below.refl _ x))
    clear c0 c3
    generalize x.drew = W at *
    refine anyT_take (i := 0) (v := ?_) rfl (by kernel_rfl) (by kernel_rfl) (by kernel_rfl) (by kernel_rfl) (fun _ _ _ h => h) (Or.inl ⟨by rfl, ?_⟩) (by assumption) ?_
    rotate_left
    focus ((intro wq hSw; (try dsimp only at hSw); go_simp); try with_reducible rfl)
    try simp only [Act.put, List.getElem_toArray, List.getElem_cons_succ, List.getElem_cons_zero, List.setIfInBounds_toArray, List.set_cons_zero, List.set_cons_succ]
    refine anyT_take (i := 1) (v := ?_) rfl (by kernel_rfl) (by kernel_rfl) (by kernel_rfl) (by kernel_rfl) (fun _ _ _ h => h) (Or.inl ⟨by rfl, ?_⟩) (by assumption) ?_
    rotate_left
    focus ((intro wq hSw; (try dsimp only at hSw); go_simp); try with_reducible rfl)
    try simp only [Act.put, List.getElem_toArray, List.getElem_cons_succ, List.getElem_cons_zero, List.setIfInBounds_toArray, List.set_cons_zero, List.set_cons_succ]
    refine anyT_take (i := 2) (v := ?_) rfl (by kernel_rfl) (by kernel_rfl) (by kernel_rfl) (by kernel_rfl) (fun _ _ _ h => h) (Or.inl ⟨by rfl, ?_⟩) (by assumption) ?_
    rotate_left
    focus ((intro wq hSw; (try dsimp only at hSw); go_simp); try with_reducible rfl)
    try simp only [Act.put, List.getElem_toArray, List.getElem_cons_succ, List.getElem_cons_zero, List.setIfInBounds_toArray, List.set_cons_zero, List.set_cons_succ]
    refine anyT_take (i := 3) (v := ?_) rfl (by kernel_rfl) (by kernel_rfl) (by kernel_rfl) (by kernel_rfl) (fun _ _ _ h => h) (Or.inl ⟨by rfl, ?_⟩) (by assumption) ?_
    rotate_left
    focus ((intro wq hSw; (try dsimp only at hSw); go_simp); try with_reducible rfl)
    try simp only [Act.put, List.getElem_toArray, List.getElem_cons_succ, List.getElem_cons_zero, List.setIfInBounds_toArray, List.set_cons_zero, List.set_cons_succ]
    refine anyT_take (i := 4) (v := ?_) rfl (by kernel_rfl) (by kernel_rfl) (by kernel_rfl) (by kernel_rfl) (fun _ _ _ h => h) (Or.inl ⟨by rfl, ?_⟩) (by assumption) ?_
    rotate_left
    focus ((intro wq hSw; (try dsimp only at hSw); go_simp); try with_reducible rfl)
    try simp only [Act.put, List.getElem_toArray, List.getElem_cons_succ, List.getElem_cons_zero, List.setIfInBounds_toArray, List.set_cons_zero, List.set_cons_succ]
    refine anyT_take (i := 5) (v := ?_) rfl (by kernel_rfl) (by kernel_rfl) (by kernel_rfl) (by kernel_rfl) (fun _ _ _ h => h) (Or.inl ⟨by rfl, ?_⟩) (by assumption) ?_
    rotate_left
    focus ((intro wq hSw; (try dsimp only at hSw); go_simp); try with_reducible rfl)
    try simp only [Act.put, List.getElem_toArray, List.getElem_cons_succ, List.getElem_cons_zero, List.setIfInBounds_toArray, List.set_cons_zero, List.set_cons_succ]
    refine anyT_take (i := 6) (v := ?_) rfl (by kernel_rfl) (by kernel_rfl) (by kernel_rfl) (by kernel_rfl) (fun _ _ _ h => h) (Or.inl ⟨by rfl, ?_⟩) (by assumption) ?_
    rotate_left
    focus ((intro wq hSw; (try dsimp only at hSw); go_simp); try with_reducible rfl)
    try simp only [Act.put, List.getElem_toArray, List.getElem_cons_succ, List.getElem_cons_zero, List.setIfInBounds_toArray, List.set_cons_zero, List.set_cons_succ]
    refine anyT_take (i := 7) (v := ?_) rfl (by kernel_rfl) (by kernel_rfl) (by kernel_rfl) (by kernel_rfl) (fun _ _ _ h => h) (Or.inl ⟨by rfl, ?_⟩) (by assumption) ?_
    rotate_left
    focus ((intro wq hSw; (try dsimp only at hSw); go_simp); try with_reducible rfl)
    try simp only [Act.put, List.getElem_toArray, List.getElem_cons_succ, List.getElem_cons_zero, List.setIfInBounds_toArray, List.set_cons_zero, List.set_cons_succ]
    refine anyT_take (i := 8) (v := ?_) rfl (by kernel_rfl) (by kernel_rfl) (by kernel_rfl) (by kernel_rfl) (fun _ _ _ h => h) (Or.inl ⟨by rfl, ?_⟩) (by assumption) ?_
    rotate_left
    focus ((intro wq hSw; (try dsimp only at hSw); go_simp); try with_reducible rfl)
    try simp only [Act.put, List.getElem_toArray, List.getElem_cons_succ, List.getElem_cons_zero, List.setIfInBounds_toArray, List.set_cons_zero, List.set_cons_succ]
    refine anyT_one (i := 9) (by kernel_rfl) rfl (fun K hK => ?_)
    go_simp
    refine hcl.mono ?_
    rintro e w2 ⟨u, rfl, hu, hb⟩
    go_simp
    have HU := Lib.hid hu
    have HB2 := Lib.hid (Below.then HB.out (Nat.le_refl _) hb)
    have HBW := Lib.hid hb
    clear hu hb hcl
    have hS2 := HX.out _ HB2.out
    refine hK.out _ _ (fun _ => HX.out _ HB2.out) ?_
    clear hK K hS0
    try simp only [Act.put, List.getElem_toArray, List.getElem_cons_succ, List.getElem_cons_zero, List.setIfInBounds_toArray, List.set_cons_zero, List.set_cons_succ]
    refine anyT_take (i := 10) (v := ?_) rfl (by kernel_rfl) (by kernel_rfl) (by kernel_rfl) (by kernel_rfl) (fun _ _ _ h => h) (Or.inl ⟨by rfl, ?_⟩) (by assumption) ?_
    rotate_left
    focus ((intro wq hSw; (try dsimp only at hSw); go_simp); try with_reducible rfl)
    try simp only [Act.put, List.getElem_toArray, List.getElem_cons_succ, List.getElem_cons_zero, List.setIfInBounds_toArray, List.set_cons_zero, List.set_cons_succ]
    refine anyT_take (i := 11) (v := ?_) rfl (by kernel_rfl) (by kernel_rfl) (by kernel_rfl) (by kernel_rfl) (fun _ _ _ h => h) (Or.inl ⟨by rfl, ?_⟩) (by assumption) ?_
    rotate_left
    focus ((intro wq hSw; (try dsimp only at hSw); go_simp); try with_reducible rfl)
    try simp only [Act.put, List.getElem_toArray, List.getElem_cons_succ, List.getElem_cons_zero, List.setIfInBounds_toArray, List.set_cons_zero, List.set_cons_succ]
    refine anyT_take (i := 12) (v := ?_) rfl (by kernel_rfl) (by kernel_rfl) (by kernel_rfl) (by kernel_rfl) (fun _ _ _ h => h) (Or.inl ⟨by rfl, ?_⟩) (by assumption) ?_
    rotate_left
    focus ((intro wq hSw; (try dsimp only at hSw); go_simp); try with_reducible rfl)
    try simp only [Act.put, List.getElem_toArray, List.getElem_cons_succ, List.getElem_cons_zero, List.setIfInBounds_toArray, List.set_cons_zero, List.set_cons_succ]
    refine anyT_one (i := 13) (by kernel_rfl) rfl (fun K hK => ?_)
    go_simp
    refine hK.out _ _ (fun _ => HX.out _ HB2.out) ?_
    clear hK K
    try simp only [Act.put, List.getElem_toArray, List.getElem_cons_succ, List.getElem_cons_zero, List.setIfInBounds_toArray, List.set_cons_zero, List.set_cons_succ]
    refine anyT_one (i := 14) (by kernel_rfl) rfl (fun K hK => ?_)
    go_simp
    refine hK.out _ _ (fun _ => HX.out _ HB2.out) ?_
    clear hK K
    try simp only [Act.put, List.getElem_toArray, List.getElem_cons_succ, List.getElem_cons_zero, List.setIfInBounds_toArray, List.set_cons_zero, List.set_cons_succ]
    refine anyT_done (by kernel_rfl) ?_ _
    go_upto_region 2 with fail
    clear hS2
    obtain ⟨up, uc, rfl⟩ := slice_owns HU.out.1
    obtain ⟨r, hr⟩ : ∃ r, getL s.g s.got.length = r := ⟨_, rfl⟩
    rw [hr] at HU ⊢
    clear hr hk
    have HMW := Lib.hid (HM.out.below HB.out)
    have HM2 := Lib.hid (HM.out.below HB2.out)
    have HRK : Hid (Rk B w2 s.got.length (s.got ++ [r]) (gs ++ [.slice up r.length uc]) (.slice ga s.got.length gc)) := Lib.hid (HMW.out.got.add HBW.out HMW.out.lt.2 HU.out)
    have hown : (w2.alloc (.cells #[.slice up r.length uc] 39)).ownsRow B 39 1 (.slice ga s.got.length gc) s.got.length gs := by
      have := HM2.out.got.own
      rw [List.take_of_length_le (by rw [HM2.out.got.len]; exact Nat.le_refl _)] at this
      exact this.alloc _
    have HO := Lib.hid hown
    have HT := Lib.hid HM2.out.lt
    obtain ⟨c0, c3⟩ := HX.out _ HB2.out
    clear hown
    go_wp2_with (at_builtin; refine wpList_append_moves rfl (.tmp 25) (.tmp 27) 29 rfl B 39 i1 _ 1 24 Try.underlying29 hi1 hy0 hy1 hy2 rfl (by decide) _ s.got.length gs rfl HO.out ⟨w2.heap.size, 0, none⟩ 1 1 [.slice up r.length uc] rfl rfl (cell_one_new _ _ _) (by simp [Value.oneCell']) ?d1 (by have := HL.out; omega) (by have := HT.out.2; simp; omega) ?_)
    case d1 => have := HL.out; unfold maxLen; omega
    intro v4 w4 o4 g4 m4
    have HR4 : Hid (Rk B w4 (s.got.length + 1) (s.got ++ [r]) (gs ++ [.slice up r.length uc]) v4) := Lib.hid (HRK.out.app (by simp) o4 g4 m4)
    have HG4 := Lib.hid g4
    have HV4 := Lib.hid m4
    have HMA : Hid (PlMem B0 B P R P0 l s fv (.slice ga s.got.length gc) rv gs rs (w2.alloc (.cells #[.slice up r.length uc] 39))) := Lib.hid (HM2.out.below ((Below.refl _ _).alloc (Nat.le_refl _) _))
    have hrow : w4.rowIs P0 112 5 (plVal P fv s.put (.slice ga s.got.length gc) rv) := HMA.out.row.of_block (g4.block P0 HMA.out.row.lt (fun e => by have := (HMA.out.got.own.lt P0 e.symm).1; have := HT.out.1.2.2; omega))
    have q3 : w4.cell? ⟨P0, 3, none⟩ = some (.slice ga s.got.length gc) := hrow.cell (i := 3) (by decide)
    have z3 := hrow.frozen 3
    have HROW := Lib.hid hrow
    obtain ⟨vp, vc, rfl⟩ := slice_owns o4
    clear o4 g4 m4 c0 c3 hrow
    go_wp2_with fail
    go_end0
    have hlo : B0 ≤ P0 := HMA.out.lo.1.2.2
    have hfin := HMA.out.gotten (got' := s.got ++ [r]) HG4.out (by simpa using HR4.out) HV4.out
    have hb0 : Below B0 x w4 := (gw_low HM.out (gw_below HB2.out : Gw P R x w2)).trans (((Below.refl _ w2).alloc (by have := HMW.out.lt.2; have := HM2.out.lt.2; have := HM2.out.lo.2; omega) _).grown HG4.out (by have := HM2.out.lt.2; have := HM2.out.lo.2; simp; omega) (fun k e => by have := (HMA.out.got.own.lt k e).1; have := HM2.out.lo.2; omega))
    exact ⟨rfl, ⟨_, _, _, _, _, hfin⟩, (((k115_below HB2.out).trans (k115_below ((Below.refl _ _).alloc (Nat.le_refl _) _))).trans (k115_grown HMA.out.got.own (by decide) HG4.out)).trans (k115_set HROW.out (by decide) 3 _), low_set hb0 hlo⟩
  · rw [show getP s = s by unfold getP; rw [if_neg hk]]
    have hk' : (getK s.g s.got.length == 0) = false := by simpa using hk
    go_enter Try.func112, Try.ntmps112
    go_upto_region 1 with fail
    refine region_T (S := fun wx => wx.cell? ⟨P0, 0, none⟩ = some (.pointer (some ⟨P, 0, none⟩)) ∧ wx.cell? ⟨P0, 3, none⟩ = some (.slice ga s.got.length gc)) [] (by kernel_rfl) (HX.out _ (below_drew (Below.refl _ _))) (fun _ => ?_)
    have hS0 := HX.out _ (below_drew (Below.refl _ x))
    have HB : Hid (Below x.heap.size x x.drew) := Lib.hid (below_drew (Below.refl _ x))
    clear c0 c3
    generalize x.drew = W at *
    refine anyT_take (i := 0) (v := ?_) rfl (by kernel_rfl) (by kernel_rfl) (by kernel_rfl) (by kernel_rfl) (fun _ _ _ h => h) (Or.inl ⟨by rfl, ?_⟩) (by assumption) ?_
    rotate_left
    focus ((intro wq hSw; (try dsimp only at hSw); go_simp); try with_reducible rfl)
    try simp only [Act.put, List.getElem_toArray, List.getElem_cons_succ, List.getElem_cons_zero, List.setIfInBounds_toArray, List.set_cons_zero, List.set_cons_succ]
    refine anyT_take (i := 1) (v := ?_) rfl (by kernel_rfl) (by kernel_rfl) (by kernel_rfl) (by kernel_rfl) (fun _ _ _ h => h) (Or.inl ⟨by rfl, ?_⟩) (by assumption) ?_
    rotate_left
    focus ((intro wq hSw; (try dsimp only at hSw); go_simp); try with_reducible rfl)
    try simp only [Act.put, List.getElem_toArray, List.getElem_cons_succ, List.getElem_cons_zero, List.setIfInBounds_toArray, List.set_cons_zero, List.set_cons_succ]
    refine anyT_take (i := 2) (v := ?_) rfl (by kernel_rfl) (by kernel_rfl) (by kernel_rfl) (by kernel_rfl) (fun _ _ _ h => h) (Or.inl ⟨by rfl, ?_⟩) (by assumption) ?_
    rotate_left
    focus ((intro wq hSw; (try dsimp only at hSw); go_simp); try with_reducible rfl)
    try simp only [Act.put, List.getElem_toArray, List.getElem_cons_succ, List.getElem_cons_zero, List.setIfInBounds_toArray, List.set_cons_zero, List.set_cons_succ]
    refine anyT_take (i := 3) (v := ?_) rfl (by kernel_rfl) (by kernel_rfl) (by kernel_rfl) (by kernel_rfl) (fun _ _ _ h => h) (Or.inl ⟨by rfl, ?_⟩) (by assumption) ?_
    rotate_left
    focus ((intro wq hSw; (try dsimp only at hSw); go_simp); try with_reducible rfl)
    try simp only [Act.put, List.getElem_toArray, List.getElem_cons_succ, List.getElem_cons_zero, List.setIfInBounds_toArray, List.set_cons_zero, List.set_cons_succ]
    refine anyT_take (i := 4) (v := ?_) rfl (by kernel_rfl) (by kernel_rfl) (by kernel_rfl) (by kernel_rfl) (fun _ _ _ h => h) (Or.inl ⟨by rfl, ?_⟩) (by assumption) ?_
    rotate_left
    focus ((intro wq hSw; (try dsimp only at hSw); go_simp); try with_reducible rfl)
    try simp only [Act.put, List.getElem_toArray, List.getElem_cons_succ, List.getElem_cons_zero, List.setIfInBounds_toArray, List.set_cons_zero, List.set_cons_succ]
    refine anyT_take (i := 5) (v := ?_) rfl (by kernel_rfl) (by kernel_rfl) (by kernel_rfl) (by kernel_rfl) (fun _ _ _ h => h) (Or.inl ⟨by rfl, ?_⟩) (by assumption) ?_
    rotate_left
    focus ((intro wq hSw; (try dsimp only at hSw); go_simp); try with_reducible rfl)
    try simp only [Act.put, List.getElem_toArray, List.getElem_cons_succ, List.getElem_cons_zero, List.setIfInBounds_toArray, List.set_cons_zero, List.set_cons_succ]
    refine anyT_take (i := 6) (v := ?_) rfl (by kernel_rfl) (by kernel_rfl) (by kernel_rfl) (by kernel_rfl) (fun _ _ _ h => h) (Or.inl ⟨by rfl, ?_⟩) (by assumption) ?_
    rotate_left
    focus ((intro wq hSw; (try dsimp only at hSw); go_simp); try with_reducible rfl)
    try simp only [Act.put, List.getElem_toArray, List.getElem_cons_succ, List.getElem_cons_zero, List.setIfInBounds_toArray, List.set_cons_zero, List.set_cons_succ]
    refine anyT_take (i := 7) (v := ?_) rfl (by kernel_rfl) (by kernel_rfl) (by kernel_rfl) (by kernel_rfl) (fun _ _ _ h => h) (Or.inl ⟨by rfl, ?_⟩) (by assumption) ?_
    rotate_left
    focus ((intro wq hSw; (try dsimp only at hSw); go_simp); try with_reducible rfl)
    try simp only [Act.put, List.getElem_toArray, List.getElem_cons_succ, List.getElem_cons_zero, List.setIfInBounds_toArray, List.set_cons_zero, List.set_cons_succ]
    refine anyT_take (i := 8) (v := ?_) rfl (by kernel_rfl) (by kernel_rfl) (by kernel_rfl) (by kernel_rfl) (fun _ _ _ h => h) (Or.inl ⟨by rfl, ?_⟩) (by assumption) ?_
    rotate_left
    focus ((intro wq hSw; (try dsimp only at hSw); go_simp); try with_reducible rfl)
    try simp only [Act.put, List.getElem_toArray, List.getElem_cons_succ, List.getElem_cons_zero, List.setIfInBounds_toArray, List.set_cons_zero, List.set_cons_succ]
    refine anyT_one (i := 9) (by kernel_rfl) rfl (fun K hK => ?_)
    go_simp
    refine hcl.mono ?_
    rintro e w2 ⟨u, rfl, hu, hb⟩
    go_simp
    have HU := Lib.hid hu
    have HB2 := Lib.hid (Below.then HB.out (Nat.le_refl _) hb)
    have HBW := Lib.hid hb
    clear hu hb hcl
    have hS2 := HX.out _ HB2.out
    refine hK.out _ _ (fun _ => HX.out _ HB2.out) ?_
    clear hK K hS0
    try simp only [Act.put, List.getElem_toArray, List.getElem_cons_succ, List.getElem_cons_zero, List.setIfInBounds_toArray, List.set_cons_zero, List.set_cons_succ]
    refine anyT_take (i := 10) (v := ?_) rfl (by kernel_rfl) (by kernel_rfl) (by kernel_rfl) (by kernel_rfl) (fun _ _ _ h => h) (Or.inl ⟨by rfl, ?_⟩) (by assumption) ?_
    rotate_left
    focus ((intro wq hSw; (try dsimp only at hSw); go_simp); try with_reducible rfl)
    try simp only [Act.put, List.getElem_toArray, List.getElem_cons_succ, List.getElem_cons_zero, List.setIfInBounds_toArray, List.set_cons_zero, List.set_cons_succ]
    refine anyT_take (i := 11) (v := ?_) rfl (by kernel_rfl) (by kernel_rfl) (by kernel_rfl) (by kernel_rfl) (fun _ _ _ h => h) (Or.inl ⟨by rfl, ?_⟩) (by assumption) ?_
    rotate_left
    focus ((intro wq hSw; (try dsimp only at hSw); go_simp); try with_reducible rfl)
    try simp only [Act.put, List.getElem_toArray, List.getElem_cons_succ, List.getElem_cons_zero, List.setIfInBounds_toArray, List.set_cons_zero, List.set_cons_succ]
    refine anyT_take (i := 12) (v := ?_) rfl (by kernel_rfl) (by kernel_rfl) (by kernel_rfl) (by kernel_rfl) (fun _ _ _ h => h) (Or.inl ⟨by rfl, ?_⟩) (by assumption) ?_
    rotate_left
    focus ((intro wq hSw; (try dsimp only at hSw); go_simp); try with_reducible rfl)
    try simp only [Act.put, List.getElem_toArray, List.getElem_cons_succ, List.getElem_cons_zero, List.setIfInBounds_toArray, List.set_cons_zero, List.set_cons_succ]
    refine anyT_one (i := 13) (by kernel_rfl) rfl (fun K hK => ?_)
    go_simp
    refine hK.out _ _ (fun _ => HX.out _ HB2.out) ?_
    clear hK K
    try simp only [Act.put, List.getElem_toArray, List.getElem_cons_succ, List.getElem_cons_zero, List.setIfInBounds_toArray, List.set_cons_zero, List.set_cons_succ]
    refine anyT_one (i := 14) (by kernel_rfl) rfl (fun K hK => ?_)
    go_simp
    refine hK.out _ _ (fun _ => HX.out _ HB2.out) ?_
    clear hK K
    try simp only [Act.put, List.getElem_toArray, List.getElem_cons_succ, List.getElem_cons_zero, List.setIfInBounds_toArray, List.set_cons_zero, List.set_cons_succ]
    refine anyT_done (by kernel_rfl) ?_ _
    go_wp2_with fail
    go_end0
    exact HM.out.turned (HM.out.ring.below HB2.out) (gw_below HB2.out)
end Go.Proofs.Ytgcohmlapgnbdaa
