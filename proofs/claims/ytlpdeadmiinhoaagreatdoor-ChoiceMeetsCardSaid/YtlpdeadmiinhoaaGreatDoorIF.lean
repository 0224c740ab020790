/- Met of the document's answers: a range and a list. -/
import Derived.Test.YtlpdeadmiinhoaaGreatDoorID
namespace Go.Proofs.YtlpdeadmiinhoaaGreatDoor
open Go.RowKit

set_option maxRecDepth 100000 in
set_option maxHeartbeats 6400000 in
theorem met_list2 (x y : Ch) (vx vy : Value) (w : World) (hx : ChIn w x vx) (hy : ChIn w y vy) (hvx : validC x = true) (hvy : validC y = true) (hlx : x.isList = false) (hly : y.isList = true) (P : List Int) (hP : listMet y x = P)
    (hO : metC x y = if P = [] then none else some ((ofList P).wished x.dflt y.dflt)) :
    Calls Tryz.prog 56 #[vx, vy] w (MeetOut w (metC x y)) := by
  obtain ⟨o, ho⟩ : ∃ o, metC x y = o := ⟨_, rfl⟩
  rw [ho] at hO ⊢
  have hx0 := hx
  have hy0 := hy
  obtain ⟨i0, hi0, hz0, hz1, hz2⟩ := info_parts Tryz.info3
  obtain ⟨a, ca, rfl, _, hdx, _, hina, _⟩ := hx
  obtain ⟨b, cb, rfl, _, hdy, _, hinb, _⟩ := hy
  obtain ⟨X, hX⟩ : ∃ X : Obj, X = .cells #[.int .i64 x.kind, .int .i64 x.dflt, .slice a x.list.length ca] 24 := ⟨_, rfl⟩
  obtain ⟨Y, hY⟩ : ∃ Y : Obj, Y = .cells #[.int .i64 y.kind, .int .i64 y.dflt, .slice b y.list.length cb] 24 := ⟨_, rfl⟩
  obtain ⟨Z, hZ⟩ : ∃ Z : Obj, Z = .cells #[.int .i64 0, .int .i64 0, .slice none 0 0] 24 := ⟨_, rfl⟩
  have HF : In3 w X Y Z (((w.alloc (.cells #[.int .i64 x.kind, .int .i64 x.dflt, .slice a x.list.length ca] 24)).alloc (.cells #[.int .i64 y.kind, .int .i64 y.dflt, .slice b y.list.length cb] 24)).alloc (.cells #[.int .i64 0, .int .i64 0, .slice none 0 0] 24)) := hX ▸ hY ▸ hZ ▸ In3.first w X Y Z
  have HC := Lib.hid fun (wr : World) (h : In3 w X Y Z wr) => In3.cells (hX ▸ hY ▸ hZ ▸ h)
  have HFr := Lib.hid fun (wr : World) (o : Nat) (h : In3 w X Y Z wr) => In3.free hZ h o
  have HLx := Lib.hid fun (wr : World) (hi : In3 w X Y Z wr) => listed_any x _ wr (hx0.mono hi.same)
  have HLy := Lib.hid fun (wr : World) (hi : In3 w X Y Z wr) => listed_any y _ wr (hy0.mono hi.same)
  have hvl := valid_list hvy hly
  have HHas := Lib.hid fun (wr : World) (n : Int) (hi : In3 w X Y Z wr) => has1_any x _ n wr (hx0.mono hi.same) (hasOk_valid hvx)
  have HIn := Lib.hid fun (wr : World) (hi : In3 w X Y Z wr) => hinb.mono hi.same
  have hPb : boundB P = true := by rw [← hP]; exact filter_bound hvl.1 _
  have hPl : P.length ≤ 20 := by rw [← hP]; exact Nat.le_trans (List.length_filter_le _ _) hvl.2.2.1
  have HWi := Lib.hid fun (wr : World) (av : Option Addr) (cv : Nat) (hlen : 1 ≤ P.length) (hcap : P.length ≤ cv) (hk : Kin w X Y Z av P wr) => (wish_list96 P x y av cv _ _ wr hk.new.1 hlen (by omega) hcap (hx0.mono hk.i3.same) (hy0.mono hk.i3.same)).mono fun e w' ⟨h1, h2⟩ => (⟨h1, hk.below h2⟩ : e = Ending.returned (.agg #[.int .i64 (ofList P).kind, .int .i64 (wishC (ofList P) x.dflt y.dflt), .slice av P.length cv]) ∧ Kin w X Y Z av P w')
  have HLi := Lib.hid fun (wr : World) (av : Option Addr) (cv : Nat) (hk : Kin w X Y Z av P wr) => (list97_any P av cv wr (by omega)).mono fun e w' ⟨h1, h2⟩ => (⟨h1, hk.below h2⟩ : e = Ending.returned (.agg #[.int .i64 (ofList P).kind, .int .i64 0, .slice av P.length cv]) ∧ Kin w X Y Z av P w')
  have HO := Lib.hid hO
  have HPB := Lib.hid (And.intro hPb (And.intro hdx hdy))
  have hFl : y.list.length ≤ 20 := hvl.2.2.1
  rw [hlx] at HLx
  rw [hly] at HLy
  obtain ⟨pf, hpf⟩ : ∃ pf : Int → Bool, x.has = pf := ⟨_, rfl⟩
  unfold listMet at hP
  rw [hpf] at hP
  simp only [hpf] at HHas
  have HFP := Lib.hid hP
  have HFF := Lib.hid HF
  obtain ⟨⟨p0, p1, p2⟩, ⟨q0, q1, q2⟩, _⟩ := HC.out _ HF
  clear hX hY hZ HF hx0 hy0 hvx hvy hlx ho hO hPb hdx hdy hvl hina hinb hpf hP hly
  obtain ⟨FL, hFL⟩ : ∃ FL, y.list = FL := ⟨_, rfl⟩
  rw [hFL] at HIn HFP hFl
  obtain ⟨fn, hfn⟩ : ∃ fn, FL.length = fn := ⟨_, rfl⟩
  have hfnn : fn ≤ 20 := by omega
  have HFN := Lib.hid hfn
  have hFn : y.list.length = fn := by rw [hFL, hfn]
  clear hFL
  simp only [hFn] at *
  clear hFl hfn hFn
  go_enter Tryz.func56, Tryz.ntmps56
  go_upto_region 2 with (first | (go_at_call 95; (with_reducible refine (HLx.out _ HFF.out).mono ?_); rintro e w0 ⟨rfl, hb0⟩; have hi0' := HFF.out.next hb0; clear hb0; obtain ⟨⟨p0, p1, p2⟩, ⟨q0, q1, q2⟩, _⟩ := HC.out _ hi0') | (go_at_call 95; (with_reducible refine (HLy.out _ hi0').mono ?_); rintro e w1 ⟨rfl, hb1⟩; have hi1 := hi0'.next hb1; clear hb1 hi0'))
  clear p0 p1 p2 q0 q1 q2
  have HI1 := Lib.hid hi1
  clear hi1
  have HS : Hid (∀ wx : World, In3 w X Y Z wx → wx.cell? ⟨w.heap.size, 0, none⟩ = some (.int .i64 x.kind) ∧ wx.cell? ⟨w.heap.size, 1, none⟩ = some (.int .i64 x.dflt) ∧ wx.cell? ⟨w.heap.size, 2, none⟩ = some (.slice a x.list.length ca) ∧ wx.cell? ⟨w.heap.size + 1, 0, none⟩ = some (.int .i64 y.kind) ∧ wx.cell? ⟨w.heap.size + 1, 1, none⟩ = some (.int .i64 y.dflt) ∧ wx.cell? ⟨w.heap.size + 1, 2, none⟩ = some (.slice b fn cb)) := Lib.hid fun wx h => by
    obtain ⟨⟨p0, p1, p2⟩, ⟨q0, q1, q2⟩, _⟩ := HC.out wx h
    exact ⟨p0, p1, p2, q0, q1, q2⟩
  go_region_held3 (fun wx => wx.cell? ⟨w.heap.size, 0, none⟩ = some (.int .i64 x.kind) ∧ wx.cell? ⟨w.heap.size, 1, none⟩ = some (.int .i64 x.dflt) ∧ wx.cell? ⟨w.heap.size, 2, none⟩ = some (.slice a x.list.length ca) ∧ wx.cell? ⟨w.heap.size + 1, 0, none⟩ = some (.int .i64 y.kind) ∧ wx.cell? ⟨w.heap.size + 1, 1, none⟩ = some (.int .i64 y.dflt) ∧ wx.cell? ⟨w.heap.size + 1, 2, none⟩ = some (.slice b fn cb))
    (with_reducible refine HS.out _ ?_; repeat' (first | with_reducible exact HI1.out | with_reducible refine In3.drew ?_ | with_reducible refine In3.alloc ?_ _ | with_reducible refine In3.set ?_ ?_ _ | (simp only [World.size_alloc, World.size_drew]; have := HI1.out.size; omega)))
    (fail)
  all_goals
    go_split_ands
    first
      | (have hbb := duo1 HI1.out (.int .i64 x.kind) (.int .i64 x.dflt) (.slice a x.list.length ca) (.int .i64 y.kind) (.int .i64 y.dflt) (.slice b fn cb); obtain ⟨W, B6, B7, hW, h6, h7, hD⟩ := hbb; rw [← hW, ← h7, ← h6]; clear hW h6 h7)
      | (have hbb := duo2 HI1.out (.int .i64 x.kind) (.int .i64 x.dflt) (.slice a x.list.length ca) (.int .i64 y.kind) (.int .i64 y.dflt) (.slice b fn cb); obtain ⟨W, B6, B7, hW, h7, h6, hD⟩ := hbb; rw [← hW, ← h6, ← h7]; clear hW h6 h7)
    have HD := Lib.hid hD
    obtain ⟨⟨p0, p1, p2⟩, ⟨q0, q1, q2⟩, _⟩ := HC.out _ hD.i3
    clear hD
    go_upto_region 4 with (go_at_call 95; (with_reducible refine (HLx.out _ HD.out.i3).mono ?_); rintro e W2 ⟨rfl, hb3⟩)
    have HD3 := Lib.hid (HD.out.below hb3)
    clear HD hb3 p0 p1 p2 q0 q1 q2
    have hS0 := HS.out _ HD3.out.drew.i3
    refine region_T (S := fun wx => wx.cell? ⟨w.heap.size, 0, none⟩ = some (.int .i64 x.kind) ∧ wx.cell? ⟨w.heap.size, 1, none⟩ = some (.int .i64 x.dflt) ∧ wx.cell? ⟨w.heap.size, 2, none⟩ = some (.slice a x.list.length ca) ∧ wx.cell? ⟨w.heap.size + 1, 0, none⟩ = some (.int .i64 y.kind) ∧ wx.cell? ⟨w.heap.size + 1, 1, none⟩ = some (.int .i64 y.dflt) ∧ wx.cell? ⟨w.heap.size + 1, 2, none⟩ = some (.slice b fn cb)) [3] (by kernel_rfl) hS0 fun hHeld => ?_
    clear hS0
    refine anyT_take (i := 0) (v := ?_) rfl (by kernel_rfl) (by kernel_rfl) (by kernel_rfl) (by kernel_rfl) (fun _ _ _ h => h) (Or.inl ⟨by rfl, ?_⟩) (by assumption) ?_
    rotate_left
    focus ((intro wq hSw; (try dsimp only at hSw); go_simp); try with_reducible rfl)
    try simp only [Act.put, List.setIfInBounds_toArray, List.set_cons_zero, List.set_cons_succ]
    refine anyT_take (i := 1) (v := ?_) rfl (by kernel_rfl) (by kernel_rfl) (by kernel_rfl) (by kernel_rfl) (fun _ _ _ h => h) (Or.inl ⟨by rfl, ?_⟩) (by assumption) ?_
    rotate_left
    focus ((intro wq hSw; (try dsimp only at hSw); go_simp); try with_reducible rfl)
    try simp only [Act.put, List.setIfInBounds_toArray, List.set_cons_zero, List.set_cons_succ]
    clear hHeld
    obtain ⟨k0, k1, k2, k3, k4, k5, _⟩ := HD3.out.z6
    obtain ⟨m0, m1, m2, m3, m4, m5, _⟩ := HD3.out.z7
    have hne1 := HD3.out.ne
    have hne2 := HD3.out.ne.symm
    refine anyT_one (i := 2) (by kernel_rfl) rfl (fun K hK => ?_)
    go_simp
    refine hK.out _ _ (fun _ => HS.out _ (HD3.out.drew.set6 (.int .i64 y.kind) (.int .i64 y.dflt) (.slice b fn cb)).i3) ?_
    clear hK K
    refine anyT_one (i := 3) (by kernel_rfl) rfl (fun K hK => ?_)
    go_simp
    refine hK.out _ _ (fun h => by cases h) ?_
    clear hK K
    refine anyT_done (by kernel_rfl) ?_ _
    clear k0 k1 k2 k3 k4 k5 m0 m1 m2 m3 m4 m5
    have hbb := duo3 HD3.out (.int .i64 y.kind) (.int .i64 y.dflt) (.slice b fn cb) (.int .i64 x.kind) (.int .i64 x.dflt) (.slice a x.list.length ca)
    obtain ⟨W3, hW, hD⟩ := hbb
    rw [← hW]
    clear hW
    have HD := Lib.hid hD
    clear hD HD3

    go_wp2_with fail
    have hW3 : w.heap.size + 3 ≤ W3.heap.size := HD.out.i3.size
    go_loopw [8, 9] (fun v i wr => ∃ k : Nat, i = .int .i64 k ∧ k ≤ fn ∧ Row W3.heap.size wr v ((FL.take k).filter pf) ∧ Below W3.heap.size W3 wr) (fun _ i _ => fn - (intOf i).toNat)
    case atStart => exact ⟨0, rfl, Nat.zero_le _, Row.nil _ _, Below.refl _ _⟩
    case round =>
      obtain ⟨k, rfl, hk, hrow, hbl⟩ := hrel
      rename_i wr _
      have hDw := HD.out.below hbl
      have HDw := Lib.hid hDw
      obtain ⟨k0, k1, k2, _⟩ := hDw.z6
      obtain ⟨m0, m1, m2, _⟩ := hDw.z7
      clear hDw
      by_cases hlt : k < fn
      · obtain ⟨bl, off, rfl, hcell, _⟩ := HIn.out _ HDw.out.i3 k (by rw [HFN.out]; exact hlt)
        obtain ⟨z, hz⟩ : ∃ z, FL.getD k 0 = z := ⟨_, rfl⟩
        rw [hz] at hcell
        have hsn := filter_snoc (p := pf) (by rw [HFN.out]; exact hlt) hz
        have Hlen : Hid (((FL.take k).filter pf).length ≤ 100) := Lib.hid (by have h1 := filter_short FL pf k; have h2 := HFN.out; omega)
        have hbs : W3.heap.size ≤ wr.heap.size := hbl.size
        obtain ⟨B, hB⟩ : ∃ B, pf z = B := ⟨_, rfl⟩
        have hcall := HHas.out wr.drew z HDw.out.i3.drew
        rw [hB] at hcall hsn
        have Hcall := Lib.hid hcall
        have Hsn := Lib.hid hsn
        obtain ⟨Q, hQ⟩ : ∃ Q, (FL.take k).filter pf = Q := ⟨_, rfl⟩
        rw [hQ] at hrow Hsn Hlen
        clear hz hB hsn hQ hcall
        have HCell := Lib.hid fun (wx : World) (hb : Below wr.heap.size wr wx) => (⟨(HDw.out.below hb).z6.c2, (HDw.out.below hb).z7.c0, (HDw.out.below hb).z7.c1, (HDw.out.below hb).z7.c2, (Same.of_below hb).cell hcell⟩ : wx.cell? ⟨B6, 2, none⟩ = some (.slice (some ⟨bl, off, none⟩) fn cb) ∧ wx.cell? ⟨B7, 0, none⟩ = some (.int .i64 x.kind) ∧ wx.cell? ⟨B7, 1, none⟩ = some (.int .i64 x.dflt) ∧ wx.cell? ⟨B7, 2, none⟩ = some (.slice a x.list.length ca) ∧ wx.cell? ⟨bl, off + k, none⟩ = some (.int .i64 z))
        clear hcell
        have hkn : (k : Int) < (fn : Int) := by omega
        have hk0 : (0 : Int) ≤ (k : Int) := by omega
        go_upto_region 9 with fail
        go_region_held3 (fun wx => wx.cell? ⟨B6, 2, none⟩ = some (.slice (some ⟨bl, off, none⟩) fn cb) ∧ wx.cell? ⟨B7, 0, none⟩ = some (.int .i64 x.kind) ∧ wx.cell? ⟨B7, 1, none⟩ = some (.int .i64 x.dflt) ∧ wx.cell? ⟨B7, 2, none⟩ = some (.slice a x.list.length ca) ∧ wx.cell? ⟨bl, off + k, none⟩ = some (.int .i64 z))
          (first
            | with_reducible exact HCell.out _ (drew_below _)
            | with_reducible exact HCell.out _ hbw)
          ((go_at_call 20; (with_reducible refine Hcall.out.mono ?_); rintro e w2 ⟨rfl, hb2⟩; have hbw : Below wr.heap.size wr w2 := (drew_below wr).trans hb2))
        go_split_ands
        obtain ⟨g1, g2, g3, g4, g5⟩ := HCell.out _ hbw
        have hr2 := hrow.below hbw
        have hbl2 : Below W3.heap.size W3 w2 := hbl.trans (hbw.mono hbs)
        have hbs2 : W3.heap.size ≤ w2.heap.size := hbl2.size
        clear hrow hbl hbw hb2 HCell Hcall
        cases B with
        | true =>
          have HT : Hid ((FL.take (k + 1)).filter pf = Q ++ [z]) := Lib.hid (by have hq := Hsn.out; rw [if_pos rfl] at hq; exact hq)
          clear Hsn
          go_wp2_with (at_builtin; refine wpList_append_own _ rfl _ _ 22 rfl W3.heap.size 3 i0 (.int .i64 0) 1 8 Tryz.underlying22 hi0 hz0 hz1 hz2 rfl (by decide) _ _ _ rfl (World.ownsRow.alloc hr2 _) ⟨w2.heap.size, 0, none⟩ 1 1 [.int .i64 z] rfl rfl ?c1 ?c2 ?c3 ?c4 ?c5 ?_)
          case c1 =>
            intro j u hj
            match j, hj with
            | 0, hj => simp at hj; subst hj; simp [Addr.add]
          case c2 => intro u hu; simp at hu; subst hu; rfl
          case c3 => have := Hlen.out; unfold maxLen; omega
          case c4 => have := Hlen.out; omega
          case c5 => simp; omega
          · intro v' w5 hown' hgrow _
            have hb1 := Row.grown hr2 hbl2 hbs2 hgrow
            have hr1 := Row.push hown'
            clear hown' hgrow hr2 hbl2
            go_wp2_with fail
            go_roundw
            case rel => exact ⟨k + 1, by go_num, by omega, by rw [HT.out]; exact hr1, hb1⟩
            case measure => simp [intOf]; omega
        | false =>
          have HT : Hid ((FL.take (k + 1)).filter pf = Q) := Lib.hid (by have hq := Hsn.out; rw [if_neg (by simp)] at hq; exact hq)
          clear Hsn
          go_wp2_with fail
          go_roundw
          case rel => exact ⟨k + 1, by go_num, by omega, by rw [HT.out]; exact hr2, hbl2⟩
          case measure => simp [intOf]; omega
      · have HT : Hid ((FL.take k).filter pf = P) := Lib.hid (by rw [← HFP.out, List.take_of_length_le (by have := HFN.out; omega)])
        obtain ⟨av, cv, rfl⟩ := hrow.slice
        rw [HT.out] at hrow ⊢
        have hkin : Kin w X Y Z av P wr ∧ P.length ≤ cv := by
          obtain ⟨h1, h2⟩ := hrow.newin (ints_of_bound HPB.out.1) hW3
          exact ⟨⟨HDw.out.i3, h1⟩, h2⟩
        have HK := Lib.hid hkin
        have hi3 := HDw.out.i3
        obtain ⟨⟨p0, p1, p2⟩, ⟨q0, q1, q2⟩, r0, r1, r2⟩ := HC.out _ hi3
        have f0 := HFr.out _ 0 hi3
        have f1 := HFr.out _ 1 hi3
        have f2 := HFr.out _ 2 hi3
        clear hkin hrow HT
        obtain ⟨pn, hpn⟩ : ∃ pn, P.length = pn := ⟨_, rfl⟩
        by_cases hz : pn = 0
        · have hP0 : P = [] := List.eq_nil_of_length_eq_zero (by omega)
          have HOO : Hid (o = none) := Lib.hid (by rw [HO.out, if_pos hP0])
          rw [hpn]
          subst hz
          clear hpn hP0
          go_wp2_with fail
          refine bodyPost_ret (v := .tuple #[.agg #[.int .i64 0, .int .i64 0, .slice none 0 0], .bool false]) (by simp [results, Tryz.results56, go_sem, r0, r1, r2]) rfl ?_
          rw [HOO.out]
          exact ⟨_, rfl, zCh_new _ _, ((hi3.out.setCell (by simp; omega) _).setCell (by simp; omega) _).setCell (by simp; omega) _⟩
        · have hP0 : ¬ P = [] := fun h => hz (by rw [← hpn, h]; rfl)
          have HOO : Hid (o = some ((ofList P).wished x.dflt y.dflt)) := Lib.hid (by rw [HO.out, if_neg hP0])
          have hz0 : ((pn : Int) == 0) = false := by simp; omega
          have hz1 : decide ((pn : Int) = 0) = false := by simp; omega
          have HPN : Hid (P.length = pn) := Lib.hid hpn
          have HL2 := HLi.out
          have HW2 := fun wr av cv => HWi.out wr av cv (by omega)
          rw [hpn] at HL2 HW2 ⊢
          have HLI := Lib.hid HL2
          have HWI := Lib.hid HW2
          clear HL2 HW2 hP0 hpn hz
          go_upto_region 13 with fail
          clear hz0 hz1 p0 p1 p2 q0 q1 q2 r0 r1 r2 f0 f1 f2
          have hcv : pn ≤ cv := by have h1 := HK.out.2; have h2 := HPN.out; omega
          have HSet : Hid (∀ (wx : World) (o : Nat) (v : Value), ((wx.cell? ⟨w.heap.size, 0, none⟩ = some (.int .i64 x.kind) ∧ wx.cell? ⟨w.heap.size, 1, none⟩ = some (.int .i64 x.dflt) ∧ wx.cell? ⟨w.heap.size, 2, none⟩ = some (.slice a x.list.length ca) ∧ wx.cell? ⟨w.heap.size + 1, 0, none⟩ = some (.int .i64 y.kind) ∧ wx.cell? ⟨w.heap.size + 1, 1, none⟩ = some (.int .i64 y.dflt) ∧ wx.cell? ⟨w.heap.size + 1, 2, none⟩ = some (.slice b fn cb)) → (fun wx : World => wx.cell? ⟨w.heap.size, 0, none⟩ = some (.int .i64 x.kind) ∧ wx.cell? ⟨w.heap.size, 1, none⟩ = some (.int .i64 x.dflt) ∧ wx.cell? ⟨w.heap.size, 2, none⟩ = some (.slice a x.list.length ca) ∧ wx.cell? ⟨w.heap.size + 1, 0, none⟩ = some (.int .i64 y.kind) ∧ wx.cell? ⟨w.heap.size + 1, 1, none⟩ = some (.int .i64 y.dflt) ∧ wx.cell? ⟨w.heap.size + 1, 2, none⟩ = some (.slice b fn cb)) (wx.setCell ⟨w.heap.size + 1 + 1, o, none⟩ v))) := Lib.hid fun wx o v h => by
            obtain ⟨a1, a2, a3, a4, a5, a6⟩ := h
            refine ⟨?_, ?_, ?_, ?_, ?_, ?_⟩ <;> (rw [World.cell?_setCell_far _ _ _ _ (by simp <;> omega)]; assumption)
          have HKd := Lib.hid (HK.out.1.below (drew_below wr))
          go_region_held3 (fun wx => wx.cell? ⟨w.heap.size, 0, none⟩ = some (.int .i64 x.kind) ∧ wx.cell? ⟨w.heap.size, 1, none⟩ = some (.int .i64 x.dflt) ∧ wx.cell? ⟨w.heap.size, 2, none⟩ = some (.slice a x.list.length ca) ∧ wx.cell? ⟨w.heap.size + 1, 0, none⟩ = some (.int .i64 y.kind) ∧ wx.cell? ⟨w.heap.size + 1, 1, none⟩ = some (.int .i64 y.dflt) ∧ wx.cell? ⟨w.heap.size + 1, 2, none⟩ = some (.slice b fn cb))
            (first
              | with_reducible exact HS.out _ HKd.out.i3
              | with_reducible exact HS.out _ hk2.i3
              | with_reducible exact HS.out _ hk1.i3
              | exact HSet.out _ _ _ (HSet.out _ _ _ (HSet.out _ _ _ (HS.out _ hk2.i3))))
            (first
              | (go_at_call 97; (with_reducible refine (HLI.out _ av cv HKd.out).mono ?_); rintro e wl1 ⟨rfl, hk1⟩)
              | (go_at_call 96; (with_reducible refine (HWI.out _ av cv hcv hk1).mono ?_); rintro e wl2 ⟨rfl, hk2⟩; have f0 := HFr.out _ 0 hk2.i3; have f1 := HFr.out _ 1 hk2.i3; have f2 := HFr.out _ 2 hk2.i3; obtain ⟨_, _, r0, r1, r2⟩ := HC.out _ hk2.i3))
          go_wp2_with fail
          refine bodyPost_ret (v := .tuple #[.agg #[.int .i64 (ofList P).kind, .int .i64 (wishC (ofList P) x.dflt y.dflt), .slice av pn cv], .bool true]) (by simp [results, Tryz.results56, go_sem, r0, r1, r2]) rfl ?_
          rw [← HPN.out]
          have hnew := ((hk2.new.set (p := ⟨w.heap.size + 1 + 1, 0, none⟩) (by simp) (.int .i64 (ofList P).kind)).set (p := ⟨w.heap.size + 1 + 1, 1, none⟩) (by simp) (.int .i64 (wishC (ofList P) x.dflt y.dflt))).set (p := ⟨w.heap.size + 1 + 1, 2, none⟩) (by simp) (.slice av P.length cv)
          obtain ⟨e1, e2⟩ := listOut HOO.out HPB.out.2.1 HPB.out.2.2 HPB.out.1 (by omega) (hnew.weaken (show w.heap.size ≤ _ by omega)) HK.out.2
          exact ⟨_, by rw [e2], e1, ((hk2.i3.out.setCell (by simp; omega) _).setCell (by simp; omega) _).setCell (by simp; omega) _⟩
end Go.Proofs.YtlpdeadmiinhoaaGreatDoor
