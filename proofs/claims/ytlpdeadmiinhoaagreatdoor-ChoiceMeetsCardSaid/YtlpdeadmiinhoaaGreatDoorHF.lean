/- The maker of many or few, where there is something in common. -/
import Derived.Test.YtlpdeadmiinhoaaGreatDoorHE
namespace Go.Proofs.YtlpdeadmiinhoaaGreatDoor
open Go.RowKit

theorem firsts_len {s : Sp} (h : s.lo ≤ s.hi) (h1 : 1 ≤ s.st) : 1 ≤ (s.firsts 20).length ∧ (s.firsts 20).length ≤ 20 := by
  have := count_pos' h h1
  rw [firsts_length]
  omega
theorem listV_all (F : List Int) : ∃ ck cd cl, bareOf F = ⟨ck, cd, cl⟩ ∧ ∀ a c, ∃ a' c', listV F a c = .agg #[.int .i64 ck, .int .i64 cd, .slice a' cl.length c'] ∧ ∀ B w, Row B w (.slice a F.length c) F → Row B w (.slice a' cl.length c') cl := by
  refine ⟨(bareOf F).kind, (bareOf F).dflt, (bareOf F).list, rfl, fun a c => ?_⟩
  obtain ⟨a', c', h1, _, h3⟩ := listV_eq F a c
  exact ⟨a', c', h1, h3⟩

set_option maxRecDepth 100000 in
set_option maxHeartbeats 3200000 in
theorem many_far (x y : Ch) (vx vy : Value) (fv : Value) (f : Int) (w : World) (hx : ChIn w x vx) (hy : ChIn w y vy) (hkx : (x.kind = 3 ∧ x.list.length = 2) ∨ (x.kind = 4 ∧ x.list.length = 3)) (hky : (y.kind = 3 ∧ y.list.length = 2) ∨ (y.kind = 4 ∧ y.list.length = 3)) (hox : x.sp.Ok) (hoy : y.sp.Ok) (hf : firstC x.sp y.sp = some f) (hcond : 1000 < (outS x.sp y.sp f).st) :
    Calls Tryz.prog 142 #[vx, vy, fv] w (ChOut w (bareOf ((outS x.sp y.sp f).firsts 20))) := by
  obtain ⟨a, ca, rfl, _, _, hla, hina, _⟩ := hx
  obtain ⟨b, cb, rfl, _, _, hlb, hinb, _⟩ := hy
  obtain ⟨X, hX⟩ : ∃ X : Obj, X = .cells #[.int .i64 x.kind, .int .i64 x.dflt, .slice a x.list.length ca] 24 := ⟨_, rfl⟩
  obtain ⟨Y, hY⟩ : ∃ Y : Obj, Y = .cells #[.int .i64 y.kind, .int .i64 y.dflt, .slice b y.list.length cb] 24 := ⟨_, rfl⟩
  obtain ⟨Z, hZ⟩ : ∃ Z : Obj, Z = .cells #[.int .i64 0, .int .i64 0, .slice none 0 0] 24 := ⟨_, rfl⟩
  have HF : In3 w X Y Z (((w.alloc (.cells #[.int .i64 x.kind, .int .i64 x.dflt, .slice a x.list.length ca] 24)).alloc (.cells #[.int .i64 y.kind, .int .i64 y.dflt, .slice b y.list.length cb] 24)).alloc (.cells #[.int .i64 0, .int .i64 0, .slice none 0 0] 24)) := hX ▸ hY ▸ hZ ▸ In3.first w X Y Z
  have HC := Lib.hid fun (wr : World) (h : In3 w X Y Z wr) => In3.cells (hX ▸ hY ▸ hZ ▸ h)
  have HFr := Lib.hid fun (wr : World) (o : Nat) (h : In3 w X Y Z wr) => In3.free hZ h o
  have HSx := Lib.hid fun (wr : World) (hi : In3 w X Y Z wr) => (steps_of (v := .nilIface) (cap := ca) hla (hina.mono hi.same) hkx).mono fun e w' ⟨a1, a2⟩ => (⟨a1, hi.next a2, a2⟩ : e = Ending.returned x.sp.val ∧ In3 w X Y Z w' ∧ Below wr.heap.size wr w')
  have HSy := Lib.hid fun (wr : World) (hi : In3 w X Y Z wr) => (steps_of (v := .nilIface) (cap := cb) hlb (hinb.mono hi.same) hky).mono fun e w' ⟨a1, a2⟩ => (⟨a1, hi.next a2, a2⟩ : e = Ending.returned y.sp.val ∧ In3 w X Y Z w' ∧ Below wr.heap.size wr w')
  have HCm := Lib.hid fun (wr : World) (hi : In3 w X Y Z wr) => (common_any x.sp y.sp wr hox hoy).mono fun e w' ⟨a1, a2⟩ => (⟨a1, hi.next a2, a2⟩ : e = Ending.returned (commonV x.sp y.sp) ∧ In3 w X Y Z w' ∧ Below wr.heap.size wr w')
  have hcv : commonV x.sp y.sp = .tuple #[(outS x.sp y.sp f).val, .bool true] := by unfold commonV; rw [hf]
  rw [hcv] at HCm
  obtain ⟨s1, s2, s3, s4, s5⟩ := outS_ok hox hoy hf
  obtain ⟨s, hs⟩ : ∃ s, outS x.sp y.sp f = s := ⟨_, rfl⟩
  rw [hs] at HCm s1 s2 s3 s4 s5 hcond ⊢
  have hnice : s.Nice := ⟨s3, by omega, by omega, s4, s2, s5⟩
  have HCnt := Lib.hid fun (wr : World) => stepped_count s wr hnice s1
  have HFo : Hid (∀ wr : World, Calls Tryz.prog 53 #[.iface 110 s.val, .int .i64 20] wr fun e w' => RowOut wr (s.firsts 20) e w') := Lib.hid fun (wr : World) => firstOf_step s 20 wr hnice s1 (by omega)
  have hFl := firsts_len s1 s2
  obtain ⟨F, hF⟩ : ∃ F, s.firsts 20 = F := ⟨_, rfl⟩
  rw [hF] at HFo hFl ⊢
  obtain ⟨ck, cd, cl, hck, hlv⟩ := listV_all F
  have HCK := Lib.hid hck
  have HLV := Lib.hid hlv
  have HFL := Lib.hid hFl
  obtain ⟨cn, hcn⟩ : ∃ cn, s.count = cn := ⟨_, rfl⟩
  rw [hcn] at HCnt
  clear hF hck hlv hFl
  have HFF := Lib.hid HF
  unfold Sp.val at HSx HSy HCm
  unfold Sp.val at HCnt HFo
  clear hf hs hnice s1 s2 s3 s4 s5
  obtain ⟨sl, sh, st⟩ := s
  clear hcn
  simp only at HCnt HFo HCm hcond
  clear hX hY hZ HF hina hinb hcv hox hoy hkx hky
  obtain ⟨n, hn⟩ : ∃ n, x.list.length = n := ⟨_, rfl⟩
  obtain ⟨m, hm⟩ : ∃ m, y.list.length = m := ⟨_, rfl⟩
  rw [hn] at HC HSx HFF ⊢
  rw [hm] at HC HSy HFF ⊢
  clear hn hm hla hlb
  go_enter Tryz.func142, Tryz.ntmps142
  go_upto_region 1 with fail
  have HS : Hid (∀ wx : World, In3 w X Y Z wx → wx.cell? ⟨w.heap.size, 2, none⟩ = some (.slice a n ca) ∧ wx.cell? ⟨w.heap.size + 1, 2, none⟩ = some (.slice b m cb) ∧ In3 w X Y Z wx) := Lib.hid fun wx h => by
    obtain ⟨⟨_, _, p2⟩, ⟨_, _, q2⟩, _⟩ := HC.out wx h
    exact ⟨p2, q2, h⟩
  go_region_held3 (fun wx => wx.cell? ⟨w.heap.size, 2, none⟩ = some (.slice a n ca) ∧ wx.cell? ⟨w.heap.size + 1, 2, none⟩ = some (.slice b m cb) ∧ In3 w X Y Z wx)
    (first
      | with_reducible exact HS.out _ HFF.out.drew
      | (go_split_ands; with_reducible exact HS.out _ (by assumption))
      | with_reducible exact HS.out _ hk
      | with_reducible exact HS.out _ (In3.alloc hk _)
      | with_reducible exact HS.out _ (In3.set3 hk (by omega))
      | (go_split_ands; with_reducible exact HS.out _ (In3.alloc (by assumption) _)))
    (first
      | (go_at_call 92; (with_reducible refine (HSx.out _ (by go_split_ands; assumption)).mono ?_); rintro e wk1 ⟨rfl, hk, hb1⟩; have z1 := hk.size; try (have y1 := (Zed.newd _).below hb1; (try simp only [World.size_alloc, World.size_drew] at y1)))
      | (go_at_call 92; (with_reducible refine (HSy.out _ (by go_split_ands; assumption)).mono ?_); rintro e wk2 ⟨rfl, hk, hb2⟩; have z2 := hk.size; first | (have y2 := (Zed.new _).below hb2; (try simp only [World.size_alloc, World.size_drew] at y2)) | (have y2 := y1.below hb2) | skip)
      | (go_at_call 166; (with_reducible refine (HCm.out _ (by go_split_ands; assumption)).mono ?_); rintro e wk3 ⟨rfl, hk, hb3⟩; have z3 := hk.size; first | (have y3 := (Zed.new _).below hb3; (try simp only [World.size_alloc, World.size_drew] at y3); obtain ⟨u0, u1, u2, u3, u4, u5, u6⟩ := y3; have y4 := (Zed.mk u0 u1 u2 u3 u4 u5 u6)) | (have y3 := y2.below hb3; obtain ⟨u0, u1, u2, u3, u4, u5, u6⟩ := y3; have y4 := (Zed.mk u0 u1 u2 u3 u4 u5 u6)) | skip))
  all_goals
    go_split_ands
    first
      | (have hbb := both_set y4 hk (by omega) sl sh st)
      | (have hbb := both_new hk sl sh st)
    obtain ⟨hsd, hW⟩ := hbb
    have hsdd := Lib.hid hsd
    clear hsd
    try clear u0 u1 u2 u3 u4 u5 u6 y4
    try clear y2 
    try clear y1
    clear hk hb1 hb2 hb3 z1 z2 z3
    obtain ⟨_, _, r0, r1, r2⟩ := HC.out _ hW
    have f0 := HFr.out _ 0 hW
    have f1 := HFr.out _ 1 hW
    have f2 := HFr.out _ 2 hW
    obtain ⟨k0, k1, k2, klt⟩ := hsdd.out
    go_wp2_with (first
      | (go_at_call 53; (with_reducible refine (HFo.out _).mono ?_); rintro e w5 ⟨v5, rfl, hrow, hb5⟩; obtain ⟨av, cv, rfl⟩ := hrow.slice; have hW5 := hW.next hb5; have hlo := listOf_any F av cv w5 (by have := HFL.out; omega); obtain ⟨a2, c2, hv, hrw⟩ := HLV.out av cv; rw [hv] at hlo; have Hrw := Lib.hid hrw; clear hrw hv)
      | (go_at_call 141; (with_reducible refine hlo.mono ?_); rintro e w6 ⟨rfl, hb6⟩; have hW6 := hW5.next hb6; obtain ⟨_, _, r0, r1, r2⟩ := HC.out _ hW6; have f0 := HFr.out w6 0 hW6; have f1 := HFr.out w6 1 hW6; have f2 := HFr.out w6 2 hW6))
    refine bodyPost_ret (v := .agg #[.int .i64 ck, .int .i64 cd, .slice a2 cl.length c2]) (by simp [results, Tryz.results142, go_sem, r0, r1, r2]) rfl ?_
    have hr6 := Hrw.out _ _ (hrow.below hb6)
    have hz := hW.size
    refine chOut_mk HCK ((((hr6.setCell (by show w.heap.size + 1 + 1 < _; omega) _).setCell (by show w.heap.size + 1 + 1 < _; omega) _).setCell (by show w.heap.size + 1 + 1 < _; omega) _).weaken (by omega)) ?_
    exact ((hW6.out.setCell (by simp; omega) _).setCell (by simp; omega) _).setCell (by simp; omega) _

set_option maxRecDepth 100000 in
set_option maxHeartbeats 3200000 in
theorem many_few (x y : Ch) (vx vy : Value) (fv : Value) (f : Int) (w : World) (hx : ChIn w x vx) (hy : ChIn w y vy) (hkx : (x.kind = 3 ∧ x.list.length = 2) ∨ (x.kind = 4 ∧ x.list.length = 3)) (hky : (y.kind = 3 ∧ y.list.length = 2) ∨ (y.kind = 4 ∧ y.list.length = 3)) (hox : x.sp.Ok) (hoy : y.sp.Ok) (hf : firstC x.sp y.sp = some f) (hcond : (outS x.sp y.sp f).count ≤ 20) (hcond2 : (outS x.sp y.sp f).st ≤ 1000) :
    Calls Tryz.prog 142 #[vx, vy, fv] w (ChOut w (bareOf ((outS x.sp y.sp f).firsts 20))) := by
  obtain ⟨a, ca, rfl, _, _, hla, hina, _⟩ := hx
  obtain ⟨b, cb, rfl, _, _, hlb, hinb, _⟩ := hy
  obtain ⟨X, hX⟩ : ∃ X : Obj, X = .cells #[.int .i64 x.kind, .int .i64 x.dflt, .slice a x.list.length ca] 24 := ⟨_, rfl⟩
  obtain ⟨Y, hY⟩ : ∃ Y : Obj, Y = .cells #[.int .i64 y.kind, .int .i64 y.dflt, .slice b y.list.length cb] 24 := ⟨_, rfl⟩
  obtain ⟨Z, hZ⟩ : ∃ Z : Obj, Z = .cells #[.int .i64 0, .int .i64 0, .slice none 0 0] 24 := ⟨_, rfl⟩
  have HF : In3 w X Y Z (((w.alloc (.cells #[.int .i64 x.kind, .int .i64 x.dflt, .slice a x.list.length ca] 24)).alloc (.cells #[.int .i64 y.kind, .int .i64 y.dflt, .slice b y.list.length cb] 24)).alloc (.cells #[.int .i64 0, .int .i64 0, .slice none 0 0] 24)) := hX ▸ hY ▸ hZ ▸ In3.first w X Y Z
  have HC := Lib.hid fun (wr : World) (h : In3 w X Y Z wr) => In3.cells (hX ▸ hY ▸ hZ ▸ h)
  have HFr := Lib.hid fun (wr : World) (o : Nat) (h : In3 w X Y Z wr) => In3.free hZ h o
  have HSx := Lib.hid fun (wr : World) (hi : In3 w X Y Z wr) => (steps_of (v := .nilIface) (cap := ca) hla (hina.mono hi.same) hkx).mono fun e w' ⟨a1, a2⟩ => (⟨a1, hi.next a2, a2⟩ : e = Ending.returned x.sp.val ∧ In3 w X Y Z w' ∧ Below wr.heap.size wr w')
  have HSy := Lib.hid fun (wr : World) (hi : In3 w X Y Z wr) => (steps_of (v := .nilIface) (cap := cb) hlb (hinb.mono hi.same) hky).mono fun e w' ⟨a1, a2⟩ => (⟨a1, hi.next a2, a2⟩ : e = Ending.returned y.sp.val ∧ In3 w X Y Z w' ∧ Below wr.heap.size wr w')
  have HCm := Lib.hid fun (wr : World) (hi : In3 w X Y Z wr) => (common_any x.sp y.sp wr hox hoy).mono fun e w' ⟨a1, a2⟩ => (⟨a1, hi.next a2, a2⟩ : e = Ending.returned (commonV x.sp y.sp) ∧ In3 w X Y Z w' ∧ Below wr.heap.size wr w')
  have hcv : commonV x.sp y.sp = .tuple #[(outS x.sp y.sp f).val, .bool true] := by unfold commonV; rw [hf]
  rw [hcv] at HCm
  obtain ⟨s1, s2, s3, s4, s5⟩ := outS_ok hox hoy hf
  obtain ⟨s, hs⟩ : ∃ s, outS x.sp y.sp f = s := ⟨_, rfl⟩
  rw [hs] at HCm s1 s2 s3 s4 s5 hcond hcond2 ⊢
  have hnice : s.Nice := ⟨s3, by omega, by omega, s4, s2, s5⟩
  have HCnt := Lib.hid fun (wr : World) => stepped_count s wr hnice s1
  have HFo : Hid (∀ wr : World, Calls Tryz.prog 53 #[.iface 110 s.val, .int .i64 20] wr fun e w' => RowOut wr (s.firsts 20) e w') := Lib.hid fun (wr : World) => firstOf_step s 20 wr hnice s1 (by omega)
  have hFl := firsts_len s1 s2
  obtain ⟨F, hF⟩ : ∃ F, s.firsts 20 = F := ⟨_, rfl⟩
  rw [hF] at HFo hFl ⊢
  obtain ⟨ck, cd, cl, hck, hlv⟩ := listV_all F
  have HCK := Lib.hid hck
  have HLV := Lib.hid hlv
  have HFL := Lib.hid hFl
  obtain ⟨cn, hcn⟩ : ∃ cn, s.count = cn := ⟨_, rfl⟩
  rw [hcn] at HCnt hcond
  clear hF hck hlv hFl
  have HFF := Lib.hid HF
  unfold Sp.val at HSx HSy HCm
  unfold Sp.val at HCnt HFo
  clear hf hs hnice s1 s2 s3 s4 s5
  obtain ⟨sl, sh, st⟩ := s
  clear hcn
  simp only at HCnt HFo HCm hcond2
  have hc2 : decide (1000 < st) = false := by simp; omega
  clear hcond2
  clear hX hY hZ HF hina hinb hcv hox hoy hkx hky
  obtain ⟨n, hn⟩ : ∃ n, x.list.length = n := ⟨_, rfl⟩
  obtain ⟨m, hm⟩ : ∃ m, y.list.length = m := ⟨_, rfl⟩
  rw [hn] at HC HSx HFF ⊢
  rw [hm] at HC HSy HFF ⊢
  clear hn hm hla hlb
  go_enter Tryz.func142, Tryz.ntmps142
  go_upto_region 1 with fail
  have HS : Hid (∀ wx : World, In3 w X Y Z wx → wx.cell? ⟨w.heap.size, 2, none⟩ = some (.slice a n ca) ∧ wx.cell? ⟨w.heap.size + 1, 2, none⟩ = some (.slice b m cb) ∧ In3 w X Y Z wx) := Lib.hid fun wx h => by
    obtain ⟨⟨_, _, p2⟩, ⟨_, _, q2⟩, _⟩ := HC.out wx h
    exact ⟨p2, q2, h⟩
  go_region_held3 (fun wx => wx.cell? ⟨w.heap.size, 2, none⟩ = some (.slice a n ca) ∧ wx.cell? ⟨w.heap.size + 1, 2, none⟩ = some (.slice b m cb) ∧ In3 w X Y Z wx)
    (first
      | with_reducible exact HS.out _ HFF.out.drew
      | (go_split_ands; with_reducible exact HS.out _ (by assumption))
      | with_reducible exact HS.out _ hk
      | with_reducible exact HS.out _ (In3.alloc hk _)
      | with_reducible exact HS.out _ (In3.set3 hk (by omega))
      | (go_split_ands; with_reducible exact HS.out _ (In3.alloc (by assumption) _)))
    (first
      | (go_at_call 92; (with_reducible refine (HSx.out _ (by go_split_ands; assumption)).mono ?_); rintro e wk1 ⟨rfl, hk, hb1⟩; have z1 := hk.size; try (have y1 := (Zed.newd _).below hb1; (try simp only [World.size_alloc, World.size_drew] at y1)))
      | (go_at_call 92; (with_reducible refine (HSy.out _ (by go_split_ands; assumption)).mono ?_); rintro e wk2 ⟨rfl, hk, hb2⟩; have z2 := hk.size; first | (have y2 := (Zed.new _).below hb2; (try simp only [World.size_alloc, World.size_drew] at y2)) | (have y2 := y1.below hb2) | skip)
      | (go_at_call 166; (with_reducible refine (HCm.out _ (by go_split_ands; assumption)).mono ?_); rintro e wk3 ⟨rfl, hk, hb3⟩; have z3 := hk.size; first | (have y3 := (Zed.new _).below hb3; (try simp only [World.size_alloc, World.size_drew] at y3); obtain ⟨u0, u1, u2, u3, u4, u5, u6⟩ := y3; have y4 := (Zed.mk u0 u1 u2 u3 u4 u5 u6)) | (have y3 := y2.below hb3; obtain ⟨u0, u1, u2, u3, u4, u5, u6⟩ := y3; have y4 := (Zed.mk u0 u1 u2 u3 u4 u5 u6)) | skip))
  all_goals
    go_split_ands
    first
      | (have hbb := both_set y4 hk (by omega) sl sh st)
      | (have hbb := both_new hk sl sh st)
    obtain ⟨hsd, hW⟩ := hbb
    have hsdd := Lib.hid hsd
    clear hsd
    try clear u0 u1 u2 u3 u4 u5 u6 y4
    try clear y2 
    try clear y1
    clear hk hb1 hb2 hb3 z1 z2 z3
    obtain ⟨_, _, r0, r1, r2⟩ := HC.out _ hW
    have f0 := HFr.out _ 0 hW
    have f1 := HFr.out _ 1 hW
    have f2 := HFr.out _ 2 hW
    obtain ⟨k0, k1, k2, klt⟩ := hsdd.out
    go_wp2_with (first
      | (go_at_call 167; (with_reducible refine (HCnt.out _).mono ?_); rintro e w4 ⟨rfl, hb4⟩; have hW4 := hW.next hb4; obtain ⟨m0, m1, m2, mlt⟩ := hsdd.out.below hb4; obtain ⟨_, _, r0, r1, r2⟩ := HC.out _ hW4)
      | (go_at_call 53; (with_reducible refine (HFo.out _).mono ?_); rintro e w5 ⟨v5, rfl, hrow, hb5⟩; obtain ⟨av, cv, rfl⟩ := hrow.slice; have hW5 := hW4.next hb5; have hlo := listOf_any F av cv w5 (by have := HFL.out; omega); obtain ⟨a2, c2, hv, hrw⟩ := HLV.out av cv; rw [hv] at hlo; have Hrw := Lib.hid hrw; clear hrw hv)
      | (go_at_call 141; (with_reducible refine hlo.mono ?_); rintro e w6 ⟨rfl, hb6⟩; have hW6 := hW5.next hb6; obtain ⟨_, _, r0, r1, r2⟩ := HC.out _ hW6; have f0 := HFr.out w6 0 hW6; have f1 := HFr.out w6 1 hW6; have f2 := HFr.out w6 2 hW6))
    all_goals try (exfalso; omega)
    refine bodyPost_ret (v := .agg #[.int .i64 ck, .int .i64 cd, .slice a2 cl.length c2]) (by simp [results, Tryz.results142, go_sem, r0, r1, r2]) rfl ?_
    have hr6 := Hrw.out _ _ (hrow.below hb6)
    have hz := hW4.size
    refine chOut_mk HCK ((((hr6.setCell (by show w.heap.size + 1 + 1 < _; omega) _).setCell (by show w.heap.size + 1 + 1 < _; omega) _).setCell (by show w.heap.size + 1 + 1 < _; omega) _).weaken (by omega)) ?_
    exact ((hW6.out.setCell (by simp; omega) _).setCell (by simp; omega) _).setCell (by simp; omega) _

set_option maxRecDepth 100000 in
set_option maxHeartbeats 3200000 in
theorem many_many143 (x y : Ch) (vx vy : Value) (f : Int) (w : World) (hx : ChIn w x vx) (hy : ChIn w y vy) (hkx : (x.kind = 3 ∧ x.list.length = 2) ∨ (x.kind = 4 ∧ x.list.length = 3)) (hky : (y.kind = 3 ∧ y.list.length = 2) ∨ (y.kind = 4 ∧ y.list.length = 3)) (hox : x.sp.Ok) (hoy : y.sp.Ok) (hf : firstC x.sp y.sp = some f) (hcond : 20 < (outS x.sp y.sp f).count) (hcond2 : (outS x.sp y.sp f).st ≤ 1000) :
    Calls Tryz.prog 142 #[vx, vy, .func (.func 143) #[] #[]] w (ChOut w ⟨3, 0, [(outS x.sp y.sp f).lo, (outS x.sp y.sp f).hi]⟩) := by
  obtain ⟨a, ca, rfl, _, _, hla, hina, _⟩ := hx
  obtain ⟨b, cb, rfl, _, _, hlb, hinb, _⟩ := hy
  obtain ⟨X, hX⟩ : ∃ X : Obj, X = .cells #[.int .i64 x.kind, .int .i64 x.dflt, .slice a x.list.length ca] 24 := ⟨_, rfl⟩
  obtain ⟨Y, hY⟩ : ∃ Y : Obj, Y = .cells #[.int .i64 y.kind, .int .i64 y.dflt, .slice b y.list.length cb] 24 := ⟨_, rfl⟩
  obtain ⟨Z, hZ⟩ : ∃ Z : Obj, Z = .cells #[.int .i64 0, .int .i64 0, .slice none 0 0] 24 := ⟨_, rfl⟩
  have HF : In3 w X Y Z (((w.alloc (.cells #[.int .i64 x.kind, .int .i64 x.dflt, .slice a x.list.length ca] 24)).alloc (.cells #[.int .i64 y.kind, .int .i64 y.dflt, .slice b y.list.length cb] 24)).alloc (.cells #[.int .i64 0, .int .i64 0, .slice none 0 0] 24)) := hX ▸ hY ▸ hZ ▸ In3.first w X Y Z
  have HC := Lib.hid fun (wr : World) (h : In3 w X Y Z wr) => In3.cells (hX ▸ hY ▸ hZ ▸ h)
  have HFr := Lib.hid fun (wr : World) (o : Nat) (h : In3 w X Y Z wr) => In3.free hZ h o
  have HSx := Lib.hid fun (wr : World) (hi : In3 w X Y Z wr) => (steps_of (v := .nilIface) (cap := ca) hla (hina.mono hi.same) hkx).mono fun e w' ⟨a1, a2⟩ => (⟨a1, hi.next a2, a2⟩ : e = Ending.returned x.sp.val ∧ In3 w X Y Z w' ∧ Below wr.heap.size wr w')
  have HSy := Lib.hid fun (wr : World) (hi : In3 w X Y Z wr) => (steps_of (v := .nilIface) (cap := cb) hlb (hinb.mono hi.same) hky).mono fun e w' ⟨a1, a2⟩ => (⟨a1, hi.next a2, a2⟩ : e = Ending.returned y.sp.val ∧ In3 w X Y Z w' ∧ Below wr.heap.size wr w')
  have HCm := Lib.hid fun (wr : World) (hi : In3 w X Y Z wr) => (common_any x.sp y.sp wr hox hoy).mono fun e w' ⟨a1, a2⟩ => (⟨a1, hi.next a2, a2⟩ : e = Ending.returned (commonV x.sp y.sp) ∧ In3 w X Y Z w' ∧ Below wr.heap.size wr w')
  have hcv : commonV x.sp y.sp = .tuple #[(outS x.sp y.sp f).val, .bool true] := by unfold commonV; rw [hf]
  rw [hcv] at HCm
  obtain ⟨s1, s2, s3, s4, s5⟩ := outS_ok hox hoy hf
  obtain ⟨s, hs⟩ : ∃ s, outS x.sp y.sp f = s := ⟨_, rfl⟩
  rw [hs] at HCm s1 s2 s3 s4 s5 hcond hcond2 ⊢
  have hnice : s.Nice := ⟨s3, by omega, by omega, s4, s2, s5⟩
  have HCnt := Lib.hid fun (wr : World) => stepped_count s wr hnice s1
  have HFo := Lib.hid fun (wr : World) => toRange1_any s wr
  obtain ⟨R, hR⟩ : ∃ R : Ch, R = ⟨3, 0, [s.lo, s.hi]⟩ := ⟨_, rfl⟩
  rw [← hR] at HFo ⊢
  obtain ⟨cn, hcn⟩ : ∃ cn, s.count = cn := ⟨_, rfl⟩
  rw [hcn] at HCnt hcond
  clear hR
  have HFF := Lib.hid HF
  unfold Sp.val at HSx HSy HCm
  unfold Sp.val at HCnt HFo
  clear hf hs hnice s1 s2 s3 s4 s5
  obtain ⟨sl, sh, st⟩ := s
  clear hcn
  simp only at HCnt HFo HCm hcond2
  have hc2 : decide (1000 < st) = false := by simp; omega
  clear hcond2
  have hc3 : ¬ cn ≤ 20 := by omega
  clear hcond
  clear hX hY hZ HF hina hinb hcv hox hoy hkx hky
  obtain ⟨n, hn⟩ : ∃ n, x.list.length = n := ⟨_, rfl⟩
  obtain ⟨m, hm⟩ : ∃ m, y.list.length = m := ⟨_, rfl⟩
  rw [hn] at HC HSx HFF ⊢
  rw [hm] at HC HSy HFF ⊢
  clear hn hm hla hlb
  go_enter Tryz.func142, Tryz.ntmps142
  go_upto_region 1 with fail
  have HS : Hid (∀ wx : World, In3 w X Y Z wx → wx.cell? ⟨w.heap.size, 2, none⟩ = some (.slice a n ca) ∧ wx.cell? ⟨w.heap.size + 1, 2, none⟩ = some (.slice b m cb) ∧ In3 w X Y Z wx) := Lib.hid fun wx h => by
    obtain ⟨⟨_, _, p2⟩, ⟨_, _, q2⟩, _⟩ := HC.out wx h
    exact ⟨p2, q2, h⟩
  go_region_held3 (fun wx => wx.cell? ⟨w.heap.size, 2, none⟩ = some (.slice a n ca) ∧ wx.cell? ⟨w.heap.size + 1, 2, none⟩ = some (.slice b m cb) ∧ In3 w X Y Z wx)
    (first
      | with_reducible exact HS.out _ HFF.out.drew
      | (go_split_ands; with_reducible exact HS.out _ (by assumption))
      | with_reducible exact HS.out _ hk
      | with_reducible exact HS.out _ (In3.alloc hk _)
      | with_reducible exact HS.out _ (In3.set3 hk (by omega))
      | (go_split_ands; with_reducible exact HS.out _ (In3.alloc (by assumption) _)))
    (first
      | (go_at_call 92; (with_reducible refine (HSx.out _ (by go_split_ands; assumption)).mono ?_); rintro e wk1 ⟨rfl, hk, hb1⟩; have z1 := hk.size; try (have y1 := (Zed.newd _).below hb1; (try simp only [World.size_alloc, World.size_drew] at y1)))
      | (go_at_call 92; (with_reducible refine (HSy.out _ (by go_split_ands; assumption)).mono ?_); rintro e wk2 ⟨rfl, hk, hb2⟩; have z2 := hk.size; first | (have y2 := (Zed.new _).below hb2; (try simp only [World.size_alloc, World.size_drew] at y2)) | (have y2 := y1.below hb2) | skip)
      | (go_at_call 166; (with_reducible refine (HCm.out _ (by go_split_ands; assumption)).mono ?_); rintro e wk3 ⟨rfl, hk, hb3⟩; have z3 := hk.size; first | (have y3 := (Zed.new _).below hb3; (try simp only [World.size_alloc, World.size_drew] at y3); obtain ⟨u0, u1, u2, u3, u4, u5, u6⟩ := y3; have y4 := (Zed.mk u0 u1 u2 u3 u4 u5 u6)) | (have y3 := y2.below hb3; obtain ⟨u0, u1, u2, u3, u4, u5, u6⟩ := y3; have y4 := (Zed.mk u0 u1 u2 u3 u4 u5 u6)) | skip))
  all_goals
    go_split_ands
    first
      | (have hbb := both_set y4 hk (by omega) sl sh st)
      | (have hbb := both_new hk sl sh st)
    obtain ⟨hsd, hW⟩ := hbb
    have hsdd := Lib.hid hsd
    clear hsd
    try clear u0 u1 u2 u3 u4 u5 u6 y4
    try clear y2 
    try clear y1
    clear hk hb1 hb2 hb3 z1 z2 z3
    obtain ⟨_, _, r0, r1, r2⟩ := HC.out _ hW
    have f0 := HFr.out _ 0 hW
    have f1 := HFr.out _ 1 hW
    have f2 := HFr.out _ 2 hW
    obtain ⟨k0, k1, k2, klt⟩ := hsdd.out
    go_wp2_with (first
      | (go_at_call 167; (with_reducible refine (HCnt.out _).mono ?_); rintro e w4 ⟨rfl, hb4⟩; have hW4 := hW.next hb4; obtain ⟨m0, m1, m2, mlt⟩ := hsdd.out.below hb4; obtain ⟨_, _, r0, r1, r2⟩ := HC.out _ hW4)
      | (go_at_call 143; (with_reducible refine (HFo.out _).mono ?_); rintro e w5 ⟨a2, c2, rfl, hrow, hb5⟩; have hW6 := hW4.next hb5; obtain ⟨_, _, r0, r1, r2⟩ := HC.out _ hW6; have f0 := HFr.out w5 0 hW6; have f1 := HFr.out w5 1 hW6; have f2 := HFr.out w5 2 hW6))
    all_goals try (exfalso; omega)
    have hz := hW4.size
    refine bodyPost_ret (v := .agg #[.int .i64 R.kind, .int .i64 R.dflt, .slice a2 R.list.length c2]) (by simp [results, Tryz.results142, go_sem, r0, r1, r2]) rfl (chOut_set (p := w.heap.size + 1 + 1) hrow hW6.out (by omega) (by omega) _ _ _)

set_option maxRecDepth 100000 in
set_option maxHeartbeats 3200000 in
theorem many_many144 (x y : Ch) (vx vy : Value) (f : Int) (w : World) (hx : ChIn w x vx) (hy : ChIn w y vy) (hkx : (x.kind = 3 ∧ x.list.length = 2) ∨ (x.kind = 4 ∧ x.list.length = 3)) (hky : (y.kind = 3 ∧ y.list.length = 2) ∨ (y.kind = 4 ∧ y.list.length = 3)) (hox : x.sp.Ok) (hoy : y.sp.Ok) (hf : firstC x.sp y.sp = some f) (hcond : 20 < (outS x.sp y.sp f).count) (hcond2 : (outS x.sp y.sp f).st ≤ 1000) :
    Calls Tryz.prog 142 #[vx, vy, .func (.func 144) #[] #[]] w (ChOut w ⟨4, 0, [(outS x.sp y.sp f).lo, (outS x.sp y.sp f).hi, (outS x.sp y.sp f).st]⟩) := by
  obtain ⟨a, ca, rfl, _, _, hla, hina, _⟩ := hx
  obtain ⟨b, cb, rfl, _, _, hlb, hinb, _⟩ := hy
  obtain ⟨X, hX⟩ : ∃ X : Obj, X = .cells #[.int .i64 x.kind, .int .i64 x.dflt, .slice a x.list.length ca] 24 := ⟨_, rfl⟩
  obtain ⟨Y, hY⟩ : ∃ Y : Obj, Y = .cells #[.int .i64 y.kind, .int .i64 y.dflt, .slice b y.list.length cb] 24 := ⟨_, rfl⟩
  obtain ⟨Z, hZ⟩ : ∃ Z : Obj, Z = .cells #[.int .i64 0, .int .i64 0, .slice none 0 0] 24 := ⟨_, rfl⟩
  have HF : In3 w X Y Z (((w.alloc (.cells #[.int .i64 x.kind, .int .i64 x.dflt, .slice a x.list.length ca] 24)).alloc (.cells #[.int .i64 y.kind, .int .i64 y.dflt, .slice b y.list.length cb] 24)).alloc (.cells #[.int .i64 0, .int .i64 0, .slice none 0 0] 24)) := hX ▸ hY ▸ hZ ▸ In3.first w X Y Z
  have HC := Lib.hid fun (wr : World) (h : In3 w X Y Z wr) => In3.cells (hX ▸ hY ▸ hZ ▸ h)
  have HFr := Lib.hid fun (wr : World) (o : Nat) (h : In3 w X Y Z wr) => In3.free hZ h o
  have HSx := Lib.hid fun (wr : World) (hi : In3 w X Y Z wr) => (steps_of (v := .nilIface) (cap := ca) hla (hina.mono hi.same) hkx).mono fun e w' ⟨a1, a2⟩ => (⟨a1, hi.next a2, a2⟩ : e = Ending.returned x.sp.val ∧ In3 w X Y Z w' ∧ Below wr.heap.size wr w')
  have HSy := Lib.hid fun (wr : World) (hi : In3 w X Y Z wr) => (steps_of (v := .nilIface) (cap := cb) hlb (hinb.mono hi.same) hky).mono fun e w' ⟨a1, a2⟩ => (⟨a1, hi.next a2, a2⟩ : e = Ending.returned y.sp.val ∧ In3 w X Y Z w' ∧ Below wr.heap.size wr w')
  have HCm := Lib.hid fun (wr : World) (hi : In3 w X Y Z wr) => (common_any x.sp y.sp wr hox hoy).mono fun e w' ⟨a1, a2⟩ => (⟨a1, hi.next a2, a2⟩ : e = Ending.returned (commonV x.sp y.sp) ∧ In3 w X Y Z w' ∧ Below wr.heap.size wr w')
  have hcv : commonV x.sp y.sp = .tuple #[(outS x.sp y.sp f).val, .bool true] := by unfold commonV; rw [hf]
  rw [hcv] at HCm
  obtain ⟨s1, s2, s3, s4, s5⟩ := outS_ok hox hoy hf
  obtain ⟨s, hs⟩ : ∃ s, outS x.sp y.sp f = s := ⟨_, rfl⟩
  rw [hs] at HCm s1 s2 s3 s4 s5 hcond hcond2 ⊢
  have hnice : s.Nice := ⟨s3, by omega, by omega, s4, s2, s5⟩
  have HCnt := Lib.hid fun (wr : World) => stepped_count s wr hnice s1
  have HFo := Lib.hid fun (wr : World) => toSteps1_any s wr
  obtain ⟨R, hR⟩ : ∃ R : Ch, R = ⟨4, 0, [s.lo, s.hi, s.st]⟩ := ⟨_, rfl⟩
  rw [← hR] at HFo ⊢
  obtain ⟨cn, hcn⟩ : ∃ cn, s.count = cn := ⟨_, rfl⟩
  rw [hcn] at HCnt hcond
  clear hR
  have HFF := Lib.hid HF
  unfold Sp.val at HSx HSy HCm
  unfold Sp.val at HCnt HFo
  clear hf hs hnice s1 s2 s3 s4 s5
  obtain ⟨sl, sh, st⟩ := s
  clear hcn
  simp only at HCnt HFo HCm hcond2
  have hc2 : decide (1000 < st) = false := by simp; omega
  clear hcond2
  have hc3 : ¬ cn ≤ 20 := by omega
  clear hcond
  clear hX hY hZ HF hina hinb hcv hox hoy hkx hky
  obtain ⟨n, hn⟩ : ∃ n, x.list.length = n := ⟨_, rfl⟩
  obtain ⟨m, hm⟩ : ∃ m, y.list.length = m := ⟨_, rfl⟩
  rw [hn] at HC HSx HFF ⊢
  rw [hm] at HC HSy HFF ⊢
  clear hn hm hla hlb
  go_enter Tryz.func142, Tryz.ntmps142
  go_upto_region 1 with fail
  have HS : Hid (∀ wx : World, In3 w X Y Z wx → wx.cell? ⟨w.heap.size, 2, none⟩ = some (.slice a n ca) ∧ wx.cell? ⟨w.heap.size + 1, 2, none⟩ = some (.slice b m cb) ∧ In3 w X Y Z wx) := Lib.hid fun wx h => by
    obtain ⟨⟨_, _, p2⟩, ⟨_, _, q2⟩, _⟩ := HC.out wx h
    exact ⟨p2, q2, h⟩
  go_region_held3 (fun wx => wx.cell? ⟨w.heap.size, 2, none⟩ = some (.slice a n ca) ∧ wx.cell? ⟨w.heap.size + 1, 2, none⟩ = some (.slice b m cb) ∧ In3 w X Y Z wx)
    (first
      | with_reducible exact HS.out _ HFF.out.drew
      | (go_split_ands; with_reducible exact HS.out _ (by assumption))
      | with_reducible exact HS.out _ hk
      | with_reducible exact HS.out _ (In3.alloc hk _)
      | with_reducible exact HS.out _ (In3.set3 hk (by omega))
      | (go_split_ands; with_reducible exact HS.out _ (In3.alloc (by assumption) _)))
    (first
      | (go_at_call 92; (with_reducible refine (HSx.out _ (by go_split_ands; assumption)).mono ?_); rintro e wk1 ⟨rfl, hk, hb1⟩; have z1 := hk.size; try (have y1 := (Zed.newd _).below hb1; (try simp only [World.size_alloc, World.size_drew] at y1)))
      | (go_at_call 92; (with_reducible refine (HSy.out _ (by go_split_ands; assumption)).mono ?_); rintro e wk2 ⟨rfl, hk, hb2⟩; have z2 := hk.size; first | (have y2 := (Zed.new _).below hb2; (try simp only [World.size_alloc, World.size_drew] at y2)) | (have y2 := y1.below hb2) | skip)
      | (go_at_call 166; (with_reducible refine (HCm.out _ (by go_split_ands; assumption)).mono ?_); rintro e wk3 ⟨rfl, hk, hb3⟩; have z3 := hk.size; first | (have y3 := (Zed.new _).below hb3; (try simp only [World.size_alloc, World.size_drew] at y3); obtain ⟨u0, u1, u2, u3, u4, u5, u6⟩ := y3; have y4 := (Zed.mk u0 u1 u2 u3 u4 u5 u6)) | (have y3 := y2.below hb3; obtain ⟨u0, u1, u2, u3, u4, u5, u6⟩ := y3; have y4 := (Zed.mk u0 u1 u2 u3 u4 u5 u6)) | skip))
  all_goals
    go_split_ands
    first
      | (have hbb := both_set y4 hk (by omega) sl sh st)
      | (have hbb := both_new hk sl sh st)
    obtain ⟨hsd, hW⟩ := hbb
    have hsdd := Lib.hid hsd
    clear hsd
    try clear u0 u1 u2 u3 u4 u5 u6 y4
    try clear y2 
    try clear y1
    clear hk hb1 hb2 hb3 z1 z2 z3
    obtain ⟨_, _, r0, r1, r2⟩ := HC.out _ hW
    have f0 := HFr.out _ 0 hW
    have f1 := HFr.out _ 1 hW
    have f2 := HFr.out _ 2 hW
    obtain ⟨k0, k1, k2, klt⟩ := hsdd.out
    go_wp2_with (first
      | (go_at_call 167; (with_reducible refine (HCnt.out _).mono ?_); rintro e w4 ⟨rfl, hb4⟩; have hW4 := hW.next hb4; obtain ⟨m0, m1, m2, mlt⟩ := hsdd.out.below hb4; obtain ⟨_, _, r0, r1, r2⟩ := HC.out _ hW4)
      | (go_at_call 144; (with_reducible refine (HFo.out _).mono ?_); rintro e w5 ⟨a2, c2, rfl, hrow, hb5⟩; have hW6 := hW4.next hb5; obtain ⟨_, _, r0, r1, r2⟩ := HC.out _ hW6; have f0 := HFr.out w5 0 hW6; have f1 := HFr.out w5 1 hW6; have f2 := HFr.out w5 2 hW6))
    all_goals try (exfalso; omega)
    have hz := hW4.size
    refine bodyPost_ret (v := .agg #[.int .i64 R.kind, .int .i64 R.dflt, .slice a2 R.list.length c2]) (by simp [results, Tryz.results142, go_sem, r0, r1, r2]) rfl (chOut_set (p := w.heap.size + 1 + 1) hrow hW6.out (by omega) (by omega) _ _ _)

end Go.Proofs.YtlpdeadmiinhoaaGreatDoor
