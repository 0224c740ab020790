/- value.Cut of a sequence. -/
import Derived.Test.YtfbeeaibejggdaaDoorN3
import Derived.Test.YtfbeeaibejggdaaDoorNB
import Derived.Deep.AppendLies
namespace Go.Proofs.YtfbeeaibejggdaaDoor
open Go Go.RowKit Go.Lib

set_option maxRecDepth 100000 in
set_option maxHeartbeats 1600000 in
theorem cut_good (n : Int) (s : ByteArray) (keys : List Int) (kids : List T) (v : Value) (fr til : Int) (w : World) (hr : Rep w (.mk 10 n s keys kids) v) (hl : HasLaid w) (hc : costT (.mk 10 n s keys kids) ≤ 3000) (hv : validB (.mk 10 n s keys kids) = true)
    (hx0 : 0 ≤ fr) (hx1 : fr ≤ til) (hx2 : til ≤ 1000000000) : Calls Tryd.prog 31 #[v, .int .i64 fr, .int .i64 til] w (CutPost (.mk 10 n s keys kids) fr til w) := by
  obtain ⟨i0, hi, hz0, hz1, hz2⟩ := info_parts Tryd.info25
  obtain ⟨i3, hi3, hy0, hy1, hy2⟩ := info_parts Tryd.info3
  obtain ⟨hkk, hkb⟩ := valid_sequence hv
  obtain ⟨hc1, hc2, _⟩ := cost_bounds (.mk 10 n s keys kids)
  simp only [T.kids, T.keys] at hc1 hc2
  have hck := Lib.hid fun j (hj : j < kids.length) => Nat.le_trans (costT_kid (kd := 10) (n := n) (s := s) (keys := keys) hj) hc
  have hV : Hid (cutV (.mk 10 n s keys kids) fr til = (.mk 10 0 ⟨#[]⟩ (cutK keys fr til keys.length) (cutL keys kids fr til keys.length), 0)) := Lib.hid (by rw [cutV, hv, if_pos rfl, if_pos (show (T.mk 10 n s keys kids).kind = 10 from rfl), if_neg (by omega)]; rfl)
  have hrep := hr
  obtain ⟨ka, va, kc, vc, rfl, _, _, hs, hkl, hvl, hkeys, hkids⟩ := rep_mk hr
  obtain ⟨X, hX⟩ : ∃ X : Obj, X = .cells #[.int .i64 10, .int .i64 n, .string s, .slice ka keys.length kc, .slice va kids.length vc] 25 (0, 0) := ⟨_, rfl⟩
  have hW : Same w ((w.alloc (.cells #[.int .i64 10, .int .i64 n, .string s, .slice ka keys.length kc, .slice va kids.length vc] 25)).alloc (.cells #[.int .i64 0, .int .i64 0, .string ⟨#[]⟩, .slice none 0 0, .slice none 0 0] 25)) :=
    Same.of_below (((Below.refl _ w).alloc (Nat.le_refl _) _).alloc (by simp) _)
  have hm := valid_any _ _ _ (Rep.mono hW _ _ hrep) (hl.mono hW) hc
  rw [hv] at hm
  have HKK := Lib.hid hkk
  have HKB := Lib.hid hkb
  clear hkk hv hrep hW hkb hr
  go_enter Tryd.func31, Tryd.ntmps31
  go_wp2_with (go_at_call 16; refine hm.mono ?_; rintro e w1 ⟨rfl, hb1⟩; have hi2 := In2.ofBelow hb1; obtain ⟨⟨x0, x1, x2, x3, x4⟩, _⟩ := In2.cells (y0 := .int .i64 0) (y1 := .int .i64 0) (y2 := .string ⟨#[]⟩) (y3 := .slice none 0 0) (y4 := .slice none 0 0) hi2; have hCt := Ct.first hi2; obtain ⟨⟨a0, a1, a2, a3, a4⟩, _⟩ := Ct.cells hCt)
  clear a0 a1 a2 a3 a4 x0 x1 x2 x3 x4
  go_loopw [35] (fun i wr => ∃ (k : Nat) (kv vv : Value), i = .int .i64 k ∧ k ≤ keys.length ∧ Ct w (.cells #[.int .i64 10, .int .i64 n, .string s, .slice ka keys.length kc, .slice va kids.length vc] 25 (0, 0)) w1.heap.size (cutK keys fr til k) (cutL keys kids fr til k) kv vv wr) (fun i _ => keys.length - (intOf i).toNat)
  case atStart => exact ⟨0, _, _, rfl, Nat.zero_le _, hCt⟩
  case round =>
    clear hCt hi2 hb1
    obtain ⟨k, kv, vv, rfl, hk, hCt⟩ := hrel
    obtain ⟨⟨x0, x1, x2, x3, x4⟩, a0, a1, a2, a3, a4⟩ := Ct.cells hCt
    by_cases hlt : k < keys.length
    · have hlt2 : k < kids.length := by rw [← HKK.out]; exact hlt
      obtain ⟨kb, ko, rfl, g, _⟩ := hkeys.mono hCt.in2.same k hlt
      obtain ⟨p, hp⟩ : ∃ p, keys.getD k 0 = p := ⟨_, rfl⟩
      rw [hp] at g
      have Hp := Lib.hid hp
      clear hp
      by_cases e : inB fr til p = true
      · have hyk := Lib.hid (cutK_yes Hp e)
        have hyl := Lib.hid (cutL_yes hlt2 Hp e)
        have hle := Lib.hid (cut_lens keys kids fr til k (by omega))
        have hll := hle.out.2
        have e' := e
        unfold inB at e'
        simp only [Bool.and_eq_true, decide_eq_true_eq] at e'
        obtain ⟨e1, e2⟩ := e'
        clear e
        have hkv := Lib.hid hCt
        have hown := hCt.keys
        clear hCt a0 a1 a2 a4
        go_upto_region 13 with (at_builtin; refine wpList_append_moves rfl _ _ 22 rfl (w1.heap.size + 1) 3 i3 _ 1 8 Tryd.underlying22 hi3 hy0 hy1 hy2 rfl (by decide) _ _ _ rfl (hown.alloc _) ⟨wr.heap.size, 0, none⟩ 1 1 [.int .i64 (p - fr)] rfl rfl ?c1 ?c2 ?c3 ?c4 ?c5 ?_)
        case c1 =>
          intro j u hj
          match j, hj with
          | 0, hj => simp at hj; subst hj; simp [Addr.add]
        case c2 => intro u hu; simp at hu; subst hu; rfl
        case c3 => unfold maxLen; omega
        case c4 => omega
        case c5 => have := hkv.out.bx2; simp; omega
        intro kv' w2 hown' hgrow hmv
        obtain ⟨gk, ck, rfl, _, _⟩ := own_shape hown' (by omega)
        obtain ⟨ho2, _⟩ := Ct.mid (hkv.out.alloc (.cells #[.int .i64 (p - fr)] 3 (0, 0))) (.inl rfl) hgrow
        have hC3 := Ct.key hkv.out hown' hgrow hmv
        rw [← hyk.out] at hC3
        obtain ⟨⟨_, _, _, q3, q4⟩, _, _, _, r3, _⟩ := five_all ho2
        clear ho2 hown' hgrow hmv hown hkv x0 x1 x2 x3 x4 a3 g
        obtain ⟨w3, hw3⟩ : ∃ w3, w3 = w2.setCell ⟨w1.heap.size, 3, none⟩ (.slice (some ⟨gk, 0, none⟩) ((cutK keys fr til k).length + 1) ck) := ⟨_, rfl⟩
        rw [← hw3] at hC3
        have HW3 := Lib.hid hw3
        clear hw3
        go_upto_region 13 with fail
        rw [← HW3.out]
        clear HW3 q3 q4 r3
        obtain ⟨b, off, v0, v1, v2, v3, v4, rfl, g0, g1, g2, g3, g4, hrk⟩ := KidsIn.at kids 0 k hlt2 hkids
        simp only [Nat.zero_add] at g0 g1 g2 g3 g4
        obtain ⟨qk, qn, qs, qa, qb, qc, qd, qe, qf, rfl, rfl, rfl, rfl, rfl⟩ := rep_fields hrk
        have HS : Hid (∀ (wx : World) (ks' : List Int) (l' : List T) (kv' vv' : Value), Cm w (.cells #[.int .i64 10, .int .i64 n, .string s, .slice (some ⟨kb, ko, none⟩) keys.length kc, .slice (some ⟨b, off, none⟩) kids.length vc] 25 (0, 0)) w1.heap.size (.slice (some ⟨gk, 0, none⟩) ((cutK keys fr til k).length + 1) ck) vv ks' l' kv' vv' wx → (fun wx => wx.cell? ⟨w.heap.size, 4, none⟩ = some (.slice (some ⟨b, off, none⟩) kids.length vc) ∧ wx.cell? ⟨w1.heap.size, 4, none⟩ = some vv ∧ wx.cell? ⟨b, off + k * 5, none⟩ = some (.int .i64 qk) ∧ wx.cell? ⟨b, off + k * 5 + 1, none⟩ = some (.int .i64 qn) ∧ wx.cell? ⟨b, off + k * 5 + 2, none⟩ = some (.string qs) ∧ wx.cell? ⟨b, off + k * 5 + 3, none⟩ = some (.slice qa qb qc) ∧ wx.cell? ⟨b, off + k * 5 + 4, none⟩ = some (.slice qd qe qf)) wx) := Lib.hid fun wx ks' l' kv' vv' h => by
          obtain ⟨⟨_, _, _, _, y4⟩, _⟩ := In2.cells (y0 := .int .i64 0) (y1 := .int .i64 0) (y2 := .string ⟨#[]⟩) (y3 := .slice none 0 0) (y4 := .slice none 0 0) h.in2
          obtain ⟨⟨_, _, _, _, z4⟩, _⟩ := five_all h.out
          exact ⟨y4, z4, h.in2.same.cell g0, h.in2.same.cell g1, h.in2.same.cell g2, h.in2.same.cell g3, h.in2.same.cell g4⟩
        have hcl := Lib.hid (clone_five _ _ w3.drew (Rep.mono hC3.in2.drew.same _ _ hrk) (hck.out k hlt2))
        have H0 := Lib.hid hC3.cm
        have hS0 := HS.out _ _ _ _ _ H0.out.drew
        have w4 : (k : Int) < (kids.length : Int) := by omega
        have w5 : (0 : Int) ≤ (k : Int) := by omega
        clear g0 g1 g2 g3 g4 hC3 hrk
        refine region_T (S := fun wx => wx.cell? ⟨w.heap.size, 4, none⟩ = some (.slice (some ⟨b, off, none⟩) kids.length vc) ∧ wx.cell? ⟨w1.heap.size, 4, none⟩ = some vv ∧ wx.cell? ⟨b, off + k * 5, none⟩ = some (.int .i64 qk) ∧ wx.cell? ⟨b, off + k * 5 + 1, none⟩ = some (.int .i64 qn) ∧ wx.cell? ⟨b, off + k * 5 + 2, none⟩ = some (.string qs) ∧ wx.cell? ⟨b, off + k * 5 + 3, none⟩ = some (.slice qa qb qc) ∧ wx.cell? ⟨b, off + k * 5 + 4, none⟩ = some (.slice qd qe qf)) [10, 11] (by kernel_rfl) hS0 fun hHeld => ?_
        clear hS0
        refine anyT_take (i := 0) (v := ?_) rfl (by kernel_rfl) (by kernel_rfl) (by kernel_rfl) (by kernel_rfl) (fun _ _ _ h => h) (Or.inl ⟨by rfl, ?_⟩) (by assumption) ?_
        rotate_left
        focus ((intro wq hSw; (try dsimp only at hSw); go_simp); try with_reducible rfl)
        try simp only [Act.put, List.setIfInBounds_toArray, List.set_cons_zero, List.set_cons_succ]
        refine anyT_take (i := 1) (v := ?_) rfl (by kernel_rfl) (by kernel_rfl) (by kernel_rfl) (by kernel_rfl) (fun _ _ _ h => h) (Or.inl ⟨by rfl, ?_⟩) (by assumption) ?_
        rotate_left
        focus ((intro wq hSw; (try dsimp only at hSw); go_simp); try with_reducible rfl)
        try simp only [Act.put, List.setIfInBounds_toArray, List.set_cons_zero, List.set_cons_succ]
        refine anyT_take (i := 2) (v := ?_) rfl (by kernel_rfl) (by kernel_rfl) (by kernel_rfl) (by kernel_rfl) (fun _ _ _ h => h) (Or.inl ⟨by rfl, ?_⟩) (by assumption) ?_
        rotate_left
        focus ((intro wq hSw; (try dsimp only at hSw); go_simp); try with_reducible rfl)
        try simp only [Act.put, List.setIfInBounds_toArray, List.set_cons_zero, List.set_cons_succ]
        refine anyT_take (i := 3) (v := ?_) rfl (by kernel_rfl) (by kernel_rfl) (by kernel_rfl) (by kernel_rfl) (fun _ _ _ h => h) (Or.inl ⟨by rfl, ?_⟩) (by assumption) ?_
        rotate_left
        focus ((intro wq hSw; (try dsimp only at hSw); go_simp); try with_reducible rfl)
        try simp only [Act.put, List.setIfInBounds_toArray, List.set_cons_zero, List.set_cons_succ]
        refine anyT_take (i := 4) (v := ?_) rfl (by kernel_rfl) (by kernel_rfl) (by kernel_rfl) (by kernel_rfl) (fun _ _ _ h => h) (Or.inl ⟨by rfl, ?_⟩) (by assumption) ?_
        rotate_left
        focus ((intro wq hSw; (try dsimp only at hSw); go_simp); try with_reducible rfl)
        try simp only [Act.put, List.setIfInBounds_toArray, List.set_cons_zero, List.set_cons_succ]
        refine anyT_take (i := 5) (v := ?_) rfl (by kernel_rfl) (by kernel_rfl) (by kernel_rfl) (by kernel_rfl) (fun _ _ _ h => h) (Or.inl ⟨by rfl, ?_⟩) (by assumption) ?_
        rotate_left
        focus ((intro wq hSw; (try dsimp only at hSw); go_simp); try with_reducible rfl)
        try simp only [Act.put, List.setIfInBounds_toArray, List.set_cons_zero, List.set_cons_succ]
        refine anyT_take (i := 6) (v := ?_) rfl (by kernel_rfl) (by kernel_rfl) (by kernel_rfl) (by kernel_rfl) (fun _ _ _ h => h) (Or.inl ⟨by rfl, ?_⟩) (by assumption) ?_
        rotate_left
        focus ((intro wq hSw; (try dsimp only at hSw); go_simp); try with_reducible rfl)
        try simp only [Act.put, List.setIfInBounds_toArray, List.set_cons_zero, List.set_cons_succ]
        refine anyT_one (i := 7) (by kernel_rfl) rfl (fun K hK => ?_)
        go_simp
        refine hcl.out.mono ?_
        rintro e wk ⟨rk, rn, rs, ra, rb, rc, rd, re, rf, rfl, hown, hk1⟩
        have HK := Lib.hid (Cm.below H0.out.drew hk1)
        have hS1 := HS.out _ _ _ _ _ HK.out
        have Hown := Lib.hid (And.intro hown hk1)
        clear hown hk1
        refine hK.out _ _ (fun _ => hS1) ?_
        clear hK K
        try simp only [Act.put, List.setIfInBounds_toArray, List.set_cons_zero, List.set_cons_succ]
        refine anyT_one (i := 8) (by kernel_rfl) rfl (fun K hK => ?_)
        go_simp
        have HA := Lib.hid (HK.out.alloc (.cells #[.int .i64 rk, .int .i64 rn, .string rs, .slice ra rb rc, .slice rd re rf] 25 (0, 0)))
        have hS2 := HS.out _ _ _ _ _ HA.out
        refine hK.out _ _ (fun _ => hS2) ?_
        clear hK K
        refine anyT_one (i := 9) (by kernel_rfl) rfl (fun K hK => ?_)
        obtain ⟨cs, hcs, hel⟩ := HA.out.kids
        have Hcs := Lib.hid (And.intro hcs hel)
        clear hcs hel
        refine step_append_lies _ (by rfl) _ _ _ (by rfl) (w1.heap.size + 1) 25 i0 _ 5 80 Tryd.underlying23 hi hz0 hz1 hz2 rfl (by omega) vv (cutL keys kids fr til k).length cs (by rfl) Hcs.out.1 ⟨wk.heap.size, 0, none⟩ 1 1 [.int .i64 rk, .int .i64 rn, .string rs, .slice ra rb rc, .slice rd re rf] (by rfl) (by rfl) (World.news_of_block (cs := #[.int .i64 rk, .int .i64 rn, .string rs, .slice ra rb rc, .slice rd re rf]) (t := 25) (fr := (0, 0)) (heap_alloc_new wk _)) (by simp [Value.oneCell']) (by omega) (by have := hle.out; unfold maxLen; omega) (by have := hle.out; omega) (by have := HA.out.bx2; omega) _ rfl ?_
        intro gv cav w6 hown6 hgrow6 hat6 hlt6
        have HE := Lib.hid (Cm.kid (t := kids[k]) HA.out Hcs.out.1 Hcs.out.2 hown6 hgrow6 (moved_of hat6) ((Hown.out.1.weaken fun b hb => Cm.apart H0.out.drew b hb).move (Keeps.alloc _ _)))
        have hS3 := HS.out _ _ _ _ _ HE.out
        refine hK.out _ _ (fun _ => hS3) ?_
        clear hK K hown6 hgrow6 hat6
        refine anyT_one (i := 10) (by kernel_rfl) rfl (fun K hK => ?_)
        go_simp
        refine hK.out _ _ (fun h => by cases h) ?_
        clear hK K
        obtain ⟨⟨_, _, _, _, z4⟩, _, _, _, _, y4⟩ := five_all HE.out.out
        refine anyT_one (i := 11) (by kernel_rfl) rfl (fun K hK => ?_)
        go_simp
        refine hK.out _ _ (fun h => by cases h) ?_
        clear hK K
        refine anyT_done (by kernel_rfl) ?_ _
        have hF := (HE.out.set4 (.slice (some ⟨gv, 0, none⟩) ((cutL keys kids fr til k).length + 1) cav)).ct
        rw [← hyl.out] at hF
        have HF := Lib.hid hF
        clear hF
        go_wp2_with fail
        go_roundw
        case rel => exact ⟨k + 1, _, _, by go_num, by omega, HF.out⟩
        case measure => simp [intOf]; omega
      · have e : inB fr til p = false := by simpa using e
        have hnk := Lib.hid (cutK_no Hp e)
        have hnl := Lib.hid (cutL_no (kids := kids) Hp e)
        have HR := Lib.hid hCt
        clear hCt a0 a1 a2 a3 a4
        by_cases e1 : fr ≤ p
        · have e2 : til ≤ p := by
            unfold inB at e
            simp only [Bool.and_eq_false_iff, decide_eq_false_iff_not] at e
            omega
          clear e
          go_wp2_with fail
          go_roundw
          case rel => exact ⟨k + 1, _, _, by go_num, by omega, by rw [hnk.out, hnl.out]; exact HR.out⟩
          case measure => simp [intOf]; omega
        · have e2 : p < fr := by omega
          clear e e1
          go_wp2_with fail
          go_roundw
          case rel => exact ⟨k + 1, _, _, by go_num, by omega, by rw [hnk.out, hnl.out]; exact HR.out⟩
          case measure => simp [intOf]; omega
    · obtain rfl : k = keys.length := by omega
      obtain ⟨hle, hll⟩ := cut_lens keys kids fr til keys.length (by rw [HKK.out]; exact Nat.le_refl _)
      obtain ⟨ka', kc', va', vc', rfl, rfl, hrep⟩ := hCt.rep (cutK_I64 keys fr til hx0 hx2 keys.length) (by omega) (by omega)
      have HR := Lib.hid hCt
      have HP := Lib.hid hrep
      obtain ⟨⟨b0, b1, b2, b3, b4⟩, d0, d1, d2, d3, d4⟩ := five_all (zero_stored hCt.in2)
      clear hCt hrep hle hll
      go_wp2_with fail
      refine bodyPost_ret (v := .tuple #[.agg #[.int .i64 10, .int .i64 0, .string ⟨#[]⟩, .slice ka' (cutK keys fr til keys.length).length kc', .slice va' (cutL keys kids fr til keys.length).length vc'], .int .i64 0]) (by simp [results, Tryd.results31, go_sem, b0, b1, b2, b3, b4]) rfl ⟨_, _, _, _, _, _, _, _, _, by rw [hV.out], ?_, ?_⟩
      · rw [hV.out]
        have hb := HR.out.bx1
        have hne : ∀ b : Nat, ¬ (w.heap.size ≤ b ∧ b ≤ w1.heap.size) → ¬ b = w.heap.size + 1 := fun b h => by omega
        refine HP.out _ ((((Keeps.trans (Keeps.set _ _ _ _ ?_) (Keeps.set _ _ _ _ ?_)).trans (Keeps.set _ _ _ _ ?_)).trans (Keeps.set _ _ _ _ ?_)).trans (Keeps.set _ _ _ _ ?_)) <;> omega
      · exact (((((HR.out.in2.out.setCell (by simp) _).setCell (by simp) _).setCell (by simp) _).setCell (by simp) _).setCell (by simp) _)
end Go.Proofs.YtfbeeaibejggdaaDoor
