/- The document's Cut of a sequence. -/
import Derived.Test.YtfbeeaibejggdaaDoorN3
import Derived.Test.YtfbeeaibejggdaaDoorNB
import Derived.IntWalk
import Derived.Deep.AppendLies
namespace Go.Proofs.YtfbeeaibejggdaaDoor
open Go Go.RowKit Go.Lib

set_option maxRecDepth 100000 in
set_option maxHeartbeats 1600000 in
theorem refCut_good (n : Int) (s : ByteArray) (keys : List Int) (kids : List T) (v : Value) (fr til : Int) (w : World) (hr : Rep w (.mk 10 n s keys kids) v) (hc : costT (.mk 10 n s keys kids) ≤ 3000) (hv : validB (.mk 10 n s keys kids) = true)
    (hx0 : 0 ≤ fr) (hx1 : fr ≤ til) (hx2 : til ≤ 1000000000) : Calls Tryd.prog 32 #[v, .int .i64 fr, .int .i64 til] w (CutPost (.mk 10 n s keys kids) fr til w) := by
  obtain ⟨i0, hi, hz0, hz1, hz2⟩ := info_parts Tryd.info25
  obtain ⟨i3, hi3, hy0, hy1, hy2⟩ := info_parts Tryd.info3
  obtain ⟨hkk, hkb⟩ := valid_sequence hv
  obtain ⟨hc1, hc2, _⟩ := cost_bounds (.mk 10 n s keys kids)
  simp only [T.kids, T.keys] at hc1 hc2
  have hck := Lib.hid fun j (hj : j < kids.length) => Nat.le_trans (costT_kid (kd := 10) (n := n) (s := s) (keys := keys) hj) hc
  have hV : Hid (cutV (.mk 10 n s keys kids) fr til = (.mk 10 0 ⟨#[]⟩ (cutK keys fr til keys.length) (cutL keys kids fr til keys.length), 0)) := Lib.hid (by rw [cutV, hv, if_pos rfl, if_pos (show (T.mk 10 n s keys kids).kind = 10 from rfl), if_neg (by omega)]; rfl)
  have hrep := hr
  obtain ⟨ka, va, kc, vc, rfl, _, _, hs, hkl, hvl, hkeys, hkids⟩ := rep_mk hr
  obtain ⟨X, hX⟩ : ∃ X : Obj, X = .cells #[.int .i64 10, .int .i64 n, .string s, .slice ka keys.length kc, .slice va kids.length vc] 25 (0, 0) := ⟨_, rfl⟩
  have hW : Same w ((w.alloc (.cells #[.int .i64 10, .int .i64 n, .string s, .slice ka keys.length kc, .slice va kids.length vc] 25)).alloc (.cells #[.int .i64 0, .int .i64 0, .string ⟨#[]⟩, .slice none 0 0, .slice none 0 0] 25)) :=
    Same.of_below (((Below.refl _ w).alloc (Nat.le_refl _) _).alloc (by simp) _)
  have hm := refValid_any _ _ _ (Rep.mono hW _ _ hrep) hc
  rw [hv] at hm
  have HKK := Lib.hid hkk
  have HKB := Lib.hid hkb
  clear hkk hv hrep hW hkb hr
  go_enter Tryd.func32, Tryd.ntmps32
  go_wp2_with (go_at_call 17; refine hm.mono ?_; rintro e w1 ⟨rfl, hb1⟩; have hi2 := In2.ofBelow hb1; obtain ⟨⟨x0, x1, x2, x3, x4⟩, _⟩ := In2.cells (y0 := .int .i64 0) (y1 := .int .i64 0) (y2 := .string ⟨#[]⟩) (y3 := .slice none 0 0) (y4 := .slice none 0 0) hi2; have hCt := Ct.first hi2; obtain ⟨⟨a0, a1, a2, a3, a4⟩, _⟩ := Ct.cells hCt)
  clear a0 a1 a2 a3 a4 x0 x1 x2 x3 x4
  go_loopw [9] (fun i wr => ∃ (k : Nat) (kv vv : Value), i = .int .i64 k ∧ k ≤ keys.length ∧ Ct w (.cells #[.int .i64 10, .int .i64 n, .string s, .slice ka keys.length kc, .slice va kids.length vc] 25 (0, 0)) w1.heap.size (cutK keys fr til k) (cutL keys kids fr til k) kv vv wr) (fun i _ => keys.length - (intOf i).toNat)
  case atStart => exact ⟨0, _, _, rfl, Nat.zero_le _, hCt⟩
  case round =>
    clear hCt hi2 hb1
    obtain ⟨k, kv, vv, rfl, hk, hCt⟩ := hrel
    obtain ⟨⟨x0, x1, x2, x3, x4⟩, a0, a1, a2, a3, a4⟩ := Ct.cells hCt
    by_cases hlt : k < keys.length
    · have hlt2 : k < kids.length := by rw [← HKK.out]; exact hlt
      obtain ⟨kb, ko, rfl, gk0, _⟩ := hkeys k hlt
      have g := hCt.in2.same.cell gk0
      obtain ⟨p, hp⟩ : ∃ p, keys.getD k 0 = p := ⟨_, rfl⟩
      rw [hp] at g gk0
      have Hp := Lib.hid hp
      clear hp
      by_cases e : inB fr til p = true
      · have hyk := Lib.hid (cutK_yes Hp e)
        have hyl := Lib.hid (cutL_yes hlt2 Hp e)
        have hle := Lib.hid (cut_lens keys kids fr til k (by omega))
        have hll := hle.out.2
        have e' := e
        unfold inB at e'
        simp only [Bool.and_eq_true, decide_eq_true_eq] at e'
        obtain ⟨e1, e2⟩ := e'
        clear e
        obtain ⟨b, off, v0, v1, v2, v3, v4, rfl, g0, g1, g2, g3, g4, hrk⟩ := KidsIn.at kids 0 k hlt2 hkids
        simp only [Nat.zero_add] at g0 g1 g2 g3 g4
        obtain ⟨qk, qn, qs, qa, qb, qc, qd, qe, qf, rfl, rfl, rfl, rfl, rfl⟩ := rep_fields hrk
        have HS : Hid (∀ (wx : World) (ks' : List Int) (l' : List T) (kv' vv' : Value), Cm w (.cells #[.int .i64 10, .int .i64 n, .string s, .slice (some ⟨kb, ko, none⟩) keys.length kc, .slice (some ⟨b, off, none⟩) kids.length vc] 25 (0, 0)) w1.heap.size kv vv ks' l' kv' vv' wx → (fun wx => wx.cell? ⟨w.heap.size, 3, none⟩ = some (.slice (some ⟨kb, ko, none⟩) keys.length kc) ∧ wx.cell? ⟨w.heap.size, 4, none⟩ = some (.slice (some ⟨b, off, none⟩) kids.length vc) ∧ wx.cell? ⟨w1.heap.size, 3, none⟩ = some kv ∧ wx.cell? ⟨w1.heap.size, 4, none⟩ = some vv ∧ wx.cell? ⟨kb, ko + k, none⟩ = some (.int .i64 p) ∧ wx.cell? ⟨b, off + k * 5, none⟩ = some (.int .i64 qk) ∧ wx.cell? ⟨b, off + k * 5 + 1, none⟩ = some (.int .i64 qn) ∧ wx.cell? ⟨b, off + k * 5 + 2, none⟩ = some (.string qs) ∧ wx.cell? ⟨b, off + k * 5 + 3, none⟩ = some (.slice qa qb qc) ∧ wx.cell? ⟨b, off + k * 5 + 4, none⟩ = some (.slice qd qe qf)) wx) := Lib.hid fun wx ks' l' kv' vv' h => by
          obtain ⟨⟨_, _, _, y3, y4⟩, _⟩ := In2.cells (y0 := .int .i64 0) (y1 := .int .i64 0) (y2 := .string ⟨#[]⟩) (y3 := .slice none 0 0) (y4 := .slice none 0 0) h.in2
          obtain ⟨⟨_, _, _, z3, z4⟩, _⟩ := five_all h.out
          exact ⟨y3, y4, z3, z4, h.in2.same.cell gk0, h.in2.same.cell g0, h.in2.same.cell g1, h.in2.same.cell g2, h.in2.same.cell g3, h.in2.same.cell g4⟩
        have H0 := Lib.hid hCt.cm
        have m1 : IntKind.i64.wrap (p - fr) = p - fr := IntWalk.i64_in _ (by omega)
        have hbx := H0.out.bx2
        have hS0 := HS.out _ _ _ _ _ H0.out.drew
        have w4 : (k : Int) < (kids.length : Int) := by omega
        have w6 : (k : Int) < (keys.length : Int) := by omega
        have w5 : (0 : Int) ≤ (k : Int) := by omega
        have Hrk := Lib.hid hrk
        clear g1 g2 g3 g4 g0 gk0 hrk hCt a0 a1 a2 a3 a4
        go_upto_region 12 with fail
        refine region_T (S := fun wx => wx.cell? ⟨w.heap.size, 3, none⟩ = some (.slice (some ⟨kb, ko, none⟩) keys.length kc) ∧ wx.cell? ⟨w.heap.size, 4, none⟩ = some (.slice (some ⟨b, off, none⟩) kids.length vc) ∧ wx.cell? ⟨w1.heap.size, 3, none⟩ = some kv ∧ wx.cell? ⟨w1.heap.size, 4, none⟩ = some vv ∧ wx.cell? ⟨kb, ko + k, none⟩ = some (.int .i64 p) ∧ wx.cell? ⟨b, off + k * 5, none⟩ = some (.int .i64 qk) ∧ wx.cell? ⟨b, off + k * 5 + 1, none⟩ = some (.int .i64 qn) ∧ wx.cell? ⟨b, off + k * 5 + 2, none⟩ = some (.string qs) ∧ wx.cell? ⟨b, off + k * 5 + 3, none⟩ = some (.slice qa qb qc) ∧ wx.cell? ⟨b, off + k * 5 + 4, none⟩ = some (.slice qd qe qf)) [21, 22, 23] (by kernel_rfl) hS0 fun hHeld => ?_
        clear x0 x1 x2 x3 x4 g hS0
        refine anyT_take (i := 0) (v := ?_) rfl (by kernel_rfl) (by kernel_rfl) (by kernel_rfl) (by kernel_rfl) (fun _ _ _ h => h) (Or.inl ⟨by rfl, ?_⟩) (by assumption) ?_
        rotate_left
        focus ((intro wq hSw; (try dsimp only at hSw); go_simp); try with_reducible rfl)
        try simp only [Act.put, List.setIfInBounds_toArray, List.set_cons_zero, List.set_cons_succ]
        refine anyT_take (i := 1) (v := ?_) rfl (by kernel_rfl) (by kernel_rfl) (by kernel_rfl) (by kernel_rfl) (fun _ _ _ h => h) (Or.inl ⟨by rfl, ?_⟩) (by assumption) ?_
        rotate_left
        focus ((intro wq hSw; (try dsimp only at hSw); go_simp); try with_reducible rfl)
        try simp only [Act.put, List.setIfInBounds_toArray, List.set_cons_zero, List.set_cons_succ]
        refine anyT_take (i := 2) (v := ?_) rfl (by kernel_rfl) (by kernel_rfl) (by kernel_rfl) (by kernel_rfl) (fun _ _ _ h => h) (Or.inl ⟨by rfl, ?_⟩) (by assumption) ?_
        rotate_left
        focus ((intro wq hSw; (try dsimp only at hSw); go_simp); try with_reducible rfl)
        try simp only [Act.put, List.setIfInBounds_toArray, List.set_cons_zero, List.set_cons_succ]
        refine anyT_take (i := 3) (v := ?_) rfl (by kernel_rfl) (by kernel_rfl) (by kernel_rfl) (by kernel_rfl) (fun _ _ _ h => h) (Or.inl ⟨by rfl, ?_⟩) (by assumption) ?_
        rotate_left
        focus ((intro wq hSw; (try dsimp only at hSw); go_simp); try with_reducible rfl)
        try simp only [Act.put, List.setIfInBounds_toArray, List.set_cons_zero, List.set_cons_succ]
        refine anyT_take (i := 4) (v := ?_) rfl (by kernel_rfl) (by kernel_rfl) (by kernel_rfl) (by kernel_rfl) (fun _ _ _ h => h) (Or.inl ⟨by rfl, ?_⟩) (by assumption) ?_
        rotate_left
        focus ((intro wq hSw; (try dsimp only at hSw); go_simp); try with_reducible rfl)
        try simp only [Act.put, List.setIfInBounds_toArray, List.set_cons_zero, List.set_cons_succ]
        refine anyT_take (i := 5) (v := ?_) rfl (by kernel_rfl) (by kernel_rfl) (by kernel_rfl) (by kernel_rfl) (fun _ _ _ h => h) (Or.inl ⟨by rfl, ?_⟩) (by assumption) ?_
        rotate_left
        focus ((intro wq hSw; (try dsimp only at hSw); go_simp); try with_reducible rfl)
        try simp only [Act.put, List.setIfInBounds_toArray, List.set_cons_zero, List.set_cons_succ]
        refine anyT_take (i := 6) (v := ?_) rfl (by kernel_rfl) (by kernel_rfl) (by kernel_rfl) (by kernel_rfl) (fun _ _ _ h => h) (Or.inl ⟨by rfl, ?_⟩) (by assumption) ?_
        rotate_left
        focus ((intro wq hSw; (try dsimp only at hSw); go_simp); try with_reducible rfl)
        try simp only [Act.put, List.setIfInBounds_toArray, List.set_cons_zero, List.set_cons_succ]
        refine anyT_take (i := 7) (v := ?_) rfl (by kernel_rfl) (by kernel_rfl) (by kernel_rfl) (by kernel_rfl) (fun _ _ _ h => h) (Or.inl ⟨by rfl, ?_⟩) (by assumption) ?_
        rotate_left
        focus ((intro wq hSw; (try dsimp only at hSw); go_simp); try with_reducible rfl)
        try simp only [Act.put, List.setIfInBounds_toArray, List.set_cons_zero, List.set_cons_succ]
        refine anyT_take (i := 8) (v := ?_) rfl (by kernel_rfl) (by kernel_rfl) (by kernel_rfl) (by kernel_rfl) (fun _ _ _ h => h) (Or.inl ⟨by rfl, ?_⟩) (by assumption) ?_
        rotate_left
        focus ((intro wq hSw; (try dsimp only at hSw); go_simp); try with_reducible rfl)
        try simp only [Act.put, List.setIfInBounds_toArray, List.set_cons_zero, List.set_cons_succ]
        refine anyT_take (i := 11) (v := ?_) rfl (by kernel_rfl) (by kernel_rfl) (by kernel_rfl) (by kernel_rfl) (fun _ _ _ h => h) (Or.inl ⟨by rfl, ?_⟩) (by assumption) ?_
        rotate_left
        focus ((intro wq hSw; (try dsimp only at hSw); go_simp); try with_reducible rfl)
        try simp only [Act.put, List.setIfInBounds_toArray, List.set_cons_zero, List.set_cons_succ]
        refine anyT_take (i := 12) (v := ?_) rfl (by kernel_rfl) (by kernel_rfl) (by kernel_rfl) (by kernel_rfl) (fun _ _ _ h => h) (Or.inl ⟨by rfl, ?_⟩) (by assumption) ?_
        rotate_left
        focus ((intro wq hSw; (try dsimp only at hSw); go_simp); try with_reducible rfl)
        try simp only [Act.put, List.setIfInBounds_toArray, List.set_cons_zero, List.set_cons_succ]
        refine anyT_take (i := 13) (v := ?_) rfl (by kernel_rfl) (by kernel_rfl) (by kernel_rfl) (by kernel_rfl) (fun _ _ _ h => h) (Or.inl ⟨by rfl, ?_⟩) (by assumption) ?_
        rotate_left
        focus ((intro wq hSw; (try dsimp only at hSw); go_simp); try with_reducible rfl)
        try simp only [Act.put, List.setIfInBounds_toArray, List.set_cons_zero, List.set_cons_succ]
        refine anyT_take (i := 14) (v := ?_) rfl (by kernel_rfl) (by kernel_rfl) (by kernel_rfl) (by kernel_rfl) (fun _ _ _ h => h) (Or.inl ⟨by rfl, ?_⟩) (by assumption) ?_
        rotate_left
        focus ((intro wq hSw; (try dsimp only at hSw); go_simp); try with_reducible rfl)
        try simp only [Act.put, List.setIfInBounds_toArray, List.set_cons_zero, List.set_cons_succ]
        refine anyT_take (i := 15) (v := ?_) rfl (by kernel_rfl) (by kernel_rfl) (by kernel_rfl) (by kernel_rfl) (fun _ _ _ h => h) (Or.inl ⟨by rfl, ?_⟩) (by assumption) ?_
        rotate_left
        focus ((intro wq hSw; (try dsimp only at hSw); go_simp); try with_reducible rfl)
        try simp only [Act.put, List.setIfInBounds_toArray, List.set_cons_zero, List.set_cons_succ]
        refine anyT_take (i := 16) (v := ?_) rfl (by kernel_rfl) (by kernel_rfl) (by kernel_rfl) (by kernel_rfl) (fun _ _ _ h => h) (Or.inl ⟨by rfl, ?_⟩) (by assumption) ?_
        rotate_left
        focus ((intro wq hSw; (try dsimp only at hSw); go_simp); try with_reducible rfl)
        try simp only [Act.put, List.setIfInBounds_toArray, List.set_cons_zero, List.set_cons_succ]
        refine anyT_take (i := 17) (v := ?_) rfl (by kernel_rfl) (by kernel_rfl) (by kernel_rfl) (by kernel_rfl) (fun _ _ _ h => h) (Or.inl ⟨by rfl, ?_⟩) (by assumption) ?_
        rotate_left
        focus ((intro wq hSw; (try dsimp only at hSw); go_simp); try with_reducible rfl)
        try simp only [Act.put, List.setIfInBounds_toArray, List.set_cons_zero, List.set_cons_succ]
        refine anyT_two (i := 9) (j := 18) (by kernel_rfl) rfl rfl (fun K hK => ?_) (fun K hK => ?_)
        · skip
          go_simp
          have HA := Lib.hid ((H0.out.alloc (.cells #[.int .i64 (p - fr)] 3 (0, 0))).drew)
          have hS1 := HS.out _ _ _ _ _ HA.out
          refine hK.out _ _ (fun _ => hS1) ?_
          clear hK K
          refine anyT_two (i := 10) (j := 18) (by kernel_rfl) rfl rfl (fun K hK => ?_) (fun K hK => ?_)
          · skip
            refine step_append_lies _ (by rfl) _ _ _ (by rfl) (w1.heap.size + 1) 3 i3 (.int .i64 0) 1 8 Tryd.underlying22 hi3 hy0 hy1 hy2 rfl (by omega) kv (cutK keys fr til k).length _ (by rfl) HA.out.keys ⟨wr.heap.size, 0, none⟩ 1 1 [.int .i64 (p - fr)] (by rfl) (by rfl) (World.news_of_block (cs := #[.int .i64 (p - fr)]) (t := 3) (fr := (0, 0)) (heap_alloc_new wr _)) (by simp [Value.oneCell']) (by omega) (by unfold maxLen; omega) (by omega) (by have := HA.out.bx2; omega) _ rfl ?_
            intro gg cap w2 hown2 hgrow2 hat2 hlt3
            have HB := Lib.hid (Cm.key HA.out hown2 hgrow2 (moved_of hat2))
            have hB0 := HB.out.bx2
            have hS1 := HS.out _ _ _ _ _ HB.out
            refine hK.out _ _ (fun _ => hS1) ?_
            clear hK K
            refine anyT_take (i := 20) (v := ?_) rfl (by kernel_rfl) (by kernel_rfl) (by kernel_rfl) (by kernel_rfl) (fun _ _ _ h => h) (Or.inl ⟨by rfl, ?_⟩) (by assumption) ?_
            rotate_left
            focus ((intro wq hSw; (try dsimp only at hSw); go_simp); try with_reducible rfl)
            try simp only [Act.put, List.setIfInBounds_toArray, List.set_cons_zero, List.set_cons_succ]
            refine anyT_one (i := 18) (by kernel_rfl) rfl (fun K hK => ?_)
            go_simp
            have HD := Lib.hid (HB.out.alloc (.cells #[.int .i64 qk, .int .i64 qn, .string qs, .slice qa qb qc, .slice qd qe qf] 25 (0, 0)))
            have hS1 := HS.out _ _ _ _ _ HD.out
            refine hK.out _ _ (fun _ => hS1) ?_
            clear hK K
            refine anyT_one (i := 19) (by kernel_rfl) rfl (fun K hK => ?_)
            obtain ⟨cs, hcs, hel⟩ := HD.out.kids
            have Hcs := Lib.hid (And.intro hcs hel)
            clear hcs hel
            refine step_append_lies _ (by rfl) _ _ _ (by rfl) (w1.heap.size + 1) 25 i0 _ 5 80 Tryd.underlying23 hi hz0 hz1 hz2 rfl (by omega) vv (cutL keys kids fr til k).length cs (by rfl) Hcs.out.1 ⟨w2.heap.size, 0, none⟩ 1 1 [.int .i64 qk, .int .i64 qn, .string qs, .slice qa qb qc, .slice qd qe qf] (by rfl) (by rfl) (World.news_of_block (cs := #[.int .i64 qk, .int .i64 qn, .string qs, .slice qa qb qc, .slice qd qe qf]) (t := 25) (fr := (0, 0)) (heap_alloc_new w2 _)) (by simp [Value.oneCell']) (by omega) (by have := hle.out; unfold maxLen; omega) (by have := hle.out; omega) (by have := HD.out.bx2; omega) _ rfl ?_
            intro gv cav w3 hown3 hgrow3 hat3 hlt4
            have HE := Lib.hid (Cm.kid (t := kids[k]) HD.out Hcs.out.1 Hcs.out.2 hown3 hgrow3 (moved_of hat3) (HD.out.old Hrk.out))
            have hS1 := HS.out _ _ _ _ _ HE.out
            refine hK.out _ _ (fun _ => hS1) ?_
            clear hK K
            obtain ⟨⟨_, _, _, z3, z4⟩, _, _, _, y3, y4⟩ := five_all HE.out.out
            clear hown3 hgrow3 hat3
            refine anyT_one (i := 21) (by kernel_rfl) rfl (fun K hK => ?_)
            go_simp
            refine hK.out _ _ (fun h => by cases h) ?_
            clear hK K
            refine anyT_one (i := 22) (by kernel_rfl) rfl (fun K hK => ?_)
            go_simp
            refine hK.out _ _ (fun h => by cases h) ?_
            clear hK K
            refine anyT_one (i := 23) (by kernel_rfl) rfl (fun K hK => ?_)
            go_simp
            refine hK.out _ _ (fun h => by cases h) ?_
            clear hK K
            refine anyT_done (by kernel_rfl) ?_ _
            have hF := ((HE.out.set3 (.slice (some ⟨gg, 0, none⟩) ((cutK keys fr til k).length + 1) cap)).set4 (.slice (some ⟨gv, 0, none⟩) ((cutL keys kids fr til k).length + 1) cav)).ct
            rw [← hyk.out, ← hyl.out] at hF
            have HF := Lib.hid hF
            clear hF
            go_wp2_with fail
            go_roundw
            case rel => exact ⟨k + 1, _, _, by go_num, by omega, HF.out⟩
            case measure => simp [intOf]; omega
          · have HA3 := HA
            go_simp
            have HA2 := Lib.hid (((H0.out.alloc (.cells #[.int .i64 (p - fr)] 3 (0, 0))).alloc (.cells #[.int .i64 qk, .int .i64 qn, .string qs, .slice qa qb qc, .slice qd qe qf] 25 (0, 0))).drew)
            have hS1 := HS.out _ _ _ _ _ HA2.out
            refine hK.out _ _ (fun _ => hS1) ?_
            clear hK K
            refine anyT_one (i := 10) (by kernel_rfl) rfl (fun K hK => ?_)
            refine step_append_lies _ (by rfl) _ _ _ (by rfl) (w1.heap.size + 1) 3 i3 (.int .i64 0) 1 8 Tryd.underlying22 hi3 hy0 hy1 hy2 rfl (by omega) kv (cutK keys fr til k).length _ (by rfl) HA2.out.keys ⟨wr.heap.size, 0, none⟩ 1 1 [.int .i64 (p - fr)] (by rfl) (by rfl) (World.news_of_block (cs := #[.int .i64 (p - fr)]) (t := 3) (fr := (0, 0)) ((heap_alloc_old (.cells #[.int .i64 qk, .int .i64 qn, .string qs, .slice qa qb qc, .slice qd qe qf] 25 (0, 0)) (by simp)).trans (heap_alloc_new wr (.cells #[.int .i64 (p - fr)] 3 (0, 0))))) (by simp [Value.oneCell']) (by omega) (by unfold maxLen; omega) (by omega) (by have := HA2.out.bx2; omega) _ rfl ?_
            intro gg cap w2 hown2 hgrow2 hat2 hlt3
            have HB := Lib.hid (Cm.key HA2.out hown2 hgrow2 (moved_of hat2))
            have hB0 := HB.out.bx2
            have hS1 := HS.out _ _ _ _ _ HB.out
            refine hK.out _ _ (fun _ => hS1) ?_
            clear hK K
            refine anyT_take (i := 20) (v := ?_) rfl (by kernel_rfl) (by kernel_rfl) (by kernel_rfl) (by kernel_rfl) (fun _ _ _ h => h) (Or.inl ⟨by rfl, ?_⟩) (by assumption) ?_
            rotate_left
            focus ((intro wq hSw; (try dsimp only at hSw); go_simp); try with_reducible rfl)
            try simp only [Act.put, List.setIfInBounds_toArray, List.set_cons_zero, List.set_cons_succ]
            refine anyT_one (i := 19) (by kernel_rfl) rfl (fun K hK => ?_)
            obtain ⟨cs, hcs, hel⟩ := HB.out.kids
            have Hcs := Lib.hid (And.intro hcs hel)
            clear hcs hel
            refine step_append_lies _ (by rfl) _ _ _ (by rfl) (w1.heap.size + 1) 25 i0 _ 5 80 Tryd.underlying23 hi hz0 hz1 hz2 rfl (by omega) vv (cutL keys kids fr til k).length cs (by rfl) Hcs.out.1 ⟨wr.heap.size + 1, 0, none⟩ 1 1 [.int .i64 qk, .int .i64 qn, .string qs, .slice qa qb qc, .slice qd qe qf] (by rfl) (by rfl) (World.news_of_block (cs := #[.int .i64 qk, .int .i64 qn, .string qs, .slice qa qb qc, .slice qd qe qf]) (t := 25) (fr := (0, 0)) ((hgrow2.block _ (by simp) (fun e => by have := (HA2.out.keys.lt _ e.symm); have := HA3.out.keys.lt _ e.symm; simp at this)).trans (two_new wr (.cells #[.int .i64 (p - fr)] 3 (0, 0)) (.cells #[.int .i64 qk, .int .i64 qn, .string qs, .slice qa qb qc, .slice qd qe qf] 25 (0, 0))))) (by simp [Value.oneCell']) (by omega) (by have := hle.out; unfold maxLen; omega) (by have := hle.out; omega) (by have := HB.out.bx2; omega) _ rfl ?_
            intro gv cav w3 hown3 hgrow3 hat3 hlt4
            have HE := Lib.hid (Cm.kid (t := kids[k]) HB.out Hcs.out.1 Hcs.out.2 hown3 hgrow3 (moved_of hat3) (HB.out.old Hrk.out))
            have hS1 := HS.out _ _ _ _ _ HE.out
            refine hK.out _ _ (fun _ => hS1) ?_
            clear hK K
            obtain ⟨⟨_, _, _, z3, z4⟩, _, _, _, y3, y4⟩ := five_all HE.out.out
            clear hown3 hgrow3 hat3
            refine anyT_one (i := 21) (by kernel_rfl) rfl (fun K hK => ?_)
            go_simp
            refine hK.out _ _ (fun h => by cases h) ?_
            clear hK K
            refine anyT_one (i := 22) (by kernel_rfl) rfl (fun K hK => ?_)
            go_simp
            refine hK.out _ _ (fun h => by cases h) ?_
            clear hK K
            refine anyT_one (i := 23) (by kernel_rfl) rfl (fun K hK => ?_)
            go_simp
            refine hK.out _ _ (fun h => by cases h) ?_
            clear hK K
            refine anyT_done (by kernel_rfl) ?_ _
            have hF := ((HE.out.set3 (.slice (some ⟨gg, 0, none⟩) ((cutK keys fr til k).length + 1) cap)).set4 (.slice (some ⟨gv, 0, none⟩) ((cutL keys kids fr til k).length + 1) cav)).ct
            rw [← hyk.out, ← hyl.out] at hF
            have HF := Lib.hid hF
            clear hF
            go_wp2_with fail
            go_roundw
            case rel => exact ⟨k + 1, _, _, by go_num, by omega, HF.out⟩
            case measure => simp [intOf]; omega
        · skip
          go_simp
          have HA := Lib.hid ((H0.out.alloc (.cells #[.int .i64 qk, .int .i64 qn, .string qs, .slice qa qb qc, .slice qd qe qf] 25 (0, 0))).drew)
          have hS1 := HS.out _ _ _ _ _ HA.out
          refine hK.out _ _ (fun _ => hS1) ?_
          clear hK K
          refine anyT_one (i := 9) (by kernel_rfl) rfl (fun K hK => ?_)
          go_simp
          have HA2 := Lib.hid (((H0.out.alloc (.cells #[.int .i64 qk, .int .i64 qn, .string qs, .slice qa qb qc, .slice qd qe qf] 25 (0, 0))).alloc (.cells #[.int .i64 (p - fr)] 3 (0, 0))).drew)
          have hS1 := HS.out _ _ _ _ _ HA2.out
          refine hK.out _ _ (fun _ => hS1) ?_
          clear hK K
          refine anyT_one (i := 10) (by kernel_rfl) rfl (fun K hK => ?_)
          refine step_append_lies _ (by rfl) _ _ _ (by rfl) (w1.heap.size + 1) 3 i3 (.int .i64 0) 1 8 Tryd.underlying22 hi3 hy0 hy1 hy2 rfl (by omega) kv (cutK keys fr til k).length _ (by rfl) HA2.out.keys ⟨wr.heap.size + 1, 0, none⟩ 1 1 [.int .i64 (p - fr)] (by rfl) (by rfl) (World.news_of_block (cs := #[.int .i64 (p - fr)]) (t := 3) (fr := (0, 0)) (two_new wr (.cells #[.int .i64 qk, .int .i64 qn, .string qs, .slice qa qb qc, .slice qd qe qf] 25 (0, 0)) (.cells #[.int .i64 (p - fr)] 3 (0, 0)))) (by simp [Value.oneCell']) (by omega) (by unfold maxLen; omega) (by omega) (by have := HA2.out.bx2; omega) _ rfl ?_
          intro gg cap w2 hown2 hgrow2 hat2 hlt3
          have HB := Lib.hid (Cm.key HA2.out hown2 hgrow2 (moved_of hat2))
          have hB0 := HB.out.bx2
          have hS1 := HS.out _ _ _ _ _ HB.out
          refine hK.out _ _ (fun _ => hS1) ?_
          clear hK K
          refine anyT_take (i := 20) (v := ?_) rfl (by kernel_rfl) (by kernel_rfl) (by kernel_rfl) (by kernel_rfl) (fun _ _ _ h => h) (Or.inl ⟨by rfl, ?_⟩) (by assumption) ?_
          rotate_left
          focus ((intro wq hSw; (try dsimp only at hSw); go_simp); try with_reducible rfl)
          try simp only [Act.put, List.setIfInBounds_toArray, List.set_cons_zero, List.set_cons_succ]
          refine anyT_one (i := 19) (by kernel_rfl) rfl (fun K hK => ?_)
          obtain ⟨cs, hcs, hel⟩ := HB.out.kids
          have Hcs := Lib.hid (And.intro hcs hel)
          clear hcs hel
          refine step_append_lies _ (by rfl) _ _ _ (by rfl) (w1.heap.size + 1) 25 i0 _ 5 80 Tryd.underlying23 hi hz0 hz1 hz2 rfl (by omega) vv (cutL keys kids fr til k).length cs (by rfl) Hcs.out.1 ⟨wr.heap.size, 0, none⟩ 1 1 [.int .i64 qk, .int .i64 qn, .string qs, .slice qa qb qc, .slice qd qe qf] (by rfl) (by rfl) (World.news_of_block (cs := #[.int .i64 qk, .int .i64 qn, .string qs, .slice qa qb qc, .slice qd qe qf]) (t := 25) (fr := (0, 0)) ((hgrow2.block _ (by simp; omega) (fun e => by have := H0.out.keys.lt _ e.symm; omega)).trans ((heap_alloc_old (.cells #[.int .i64 (p - fr)] 3 (0, 0)) (by simp)).trans (heap_alloc_new wr (.cells #[.int .i64 qk, .int .i64 qn, .string qs, .slice qa qb qc, .slice qd qe qf] 25 (0, 0)))))) (by simp [Value.oneCell']) (by omega) (by have := hle.out; unfold maxLen; omega) (by have := hle.out; omega) (by have := HB.out.bx2; omega) _ rfl ?_
          intro gv cav w3 hown3 hgrow3 hat3 hlt4
          have HE := Lib.hid (Cm.kid (t := kids[k]) HB.out Hcs.out.1 Hcs.out.2 hown3 hgrow3 (moved_of hat3) (HB.out.old Hrk.out))
          have hS1 := HS.out _ _ _ _ _ HE.out
          refine hK.out _ _ (fun _ => hS1) ?_
          clear hK K
          obtain ⟨⟨_, _, _, z3, z4⟩, _, _, _, y3, y4⟩ := five_all HE.out.out
          clear hown3 hgrow3 hat3
          refine anyT_one (i := 21) (by kernel_rfl) rfl (fun K hK => ?_)
          go_simp
          refine hK.out _ _ (fun h => by cases h) ?_
          clear hK K
          refine anyT_one (i := 22) (by kernel_rfl) rfl (fun K hK => ?_)
          go_simp
          refine hK.out _ _ (fun h => by cases h) ?_
          clear hK K
          refine anyT_one (i := 23) (by kernel_rfl) rfl (fun K hK => ?_)
          go_simp
          refine hK.out _ _ (fun h => by cases h) ?_
          clear hK K
          refine anyT_done (by kernel_rfl) ?_ _
          have hF := ((HE.out.set3 (.slice (some ⟨gg, 0, none⟩) ((cutK keys fr til k).length + 1) cap)).set4 (.slice (some ⟨gv, 0, none⟩) ((cutL keys kids fr til k).length + 1) cav)).ct
          rw [← hyk.out, ← hyl.out] at hF
          have HF := Lib.hid hF
          clear hF
          go_wp2_with fail
          go_roundw
          case rel => exact ⟨k + 1, _, _, by go_num, by omega, HF.out⟩
          case measure => simp [intOf]; omega
      · have e : inB fr til p = false := by simpa using e
        have hnk := Lib.hid (cutK_no Hp e)
        have hnl := Lib.hid (cutL_no (kids := kids) Hp e)
        have HR := Lib.hid hCt
        clear hCt a0 a1 a2 a3 a4
        by_cases e1 : fr ≤ p
        · have e2 : til ≤ p := by
            unfold inB at e
            simp only [Bool.and_eq_false_iff, decide_eq_false_iff_not] at e
            omega
          clear e
          go_wp2_with fail
          go_roundw
          case rel => exact ⟨k + 1, _, _, by go_num, by omega, by rw [hnk.out, hnl.out]; exact HR.out⟩
          case measure => simp [intOf]; omega
        · have e2 : p < fr := by omega
          clear e e1
          go_wp2_with fail
          go_roundw
          case rel => exact ⟨k + 1, _, _, by go_num, by omega, by rw [hnk.out, hnl.out]; exact HR.out⟩
          case measure => simp [intOf]; omega
    · obtain rfl : k = keys.length := by omega
      obtain ⟨hle, hll⟩ := cut_lens keys kids fr til keys.length (by rw [HKK.out]; exact Nat.le_refl _)
      obtain ⟨ka', kc', va', vc', rfl, rfl, hrep⟩ := hCt.rep (cutK_I64 keys fr til hx0 hx2 keys.length) (by omega) (by omega)
      have HR := Lib.hid hCt
      have HP := Lib.hid hrep
      obtain ⟨⟨b0, b1, b2, b3, b4⟩, d0, d1, d2, d3, d4⟩ := five_all (zero_stored hCt.in2)
      clear hCt hrep hle hll
      go_wp2_with fail
      refine bodyPost_ret (v := .tuple #[.agg #[.int .i64 10, .int .i64 0, .string ⟨#[]⟩, .slice ka' (cutK keys fr til keys.length).length kc', .slice va' (cutL keys kids fr til keys.length).length vc'], .int .i64 0]) (by simp [results, Tryd.results32, go_sem, b0, b1, b2, b3, b4]) rfl ⟨_, _, _, _, _, _, _, _, _, by rw [hV.out], ?_, ?_⟩
      · rw [hV.out]
        have hb := HR.out.bx1
        have hne : ∀ b : Nat, ¬ (w.heap.size ≤ b ∧ b ≤ w1.heap.size) → ¬ b = w.heap.size + 1 := fun b h => by omega
        refine HP.out _ ((((Keeps.trans (Keeps.set _ _ _ _ ?_) (Keeps.set _ _ _ _ ?_)).trans (Keeps.set _ _ _ _ ?_)).trans (Keeps.set _ _ _ _ ?_)).trans (Keeps.set _ _ _ _ ?_)) <;> omega
      · exact (((((HR.out.in2.out.setCell (by simp) _).setCell (by simp) _).setCell (by simp) _).setCell (by simp) _).setCell (by simp) _)
end Go.Proofs.YtfbeeaibejggdaaDoor
