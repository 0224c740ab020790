/- Duck: the document's, where all fits. -/
import Derived.Test.YthfagnbecocgdaaQG
import Derived.Test.YthfagnbecocgdaaQH
import Derived.Test.YthfagnbecocgdaaRM
namespace Go.Proofs.Ythfagnbecocgdaa
open Go.RowKit Go.Shelf Go.Deep

theorem times_one {s : Int} (h : s.natAbs ≤ 8388607) : times s 65536 = s := by
  unfold times
  have h2 : rnd (s * 65536) 65536 = s := by
    unfold rnd
    split <;> omega
  rw [h2]
  unfold bnd
  omega
def dkF (U V : Nat → Nat → Int) (i c j x : Nat) : Int := if x < i ∨ (x = i ∧ j < c) then V j x else U j x
theorem above_any (s : Int) (h : -8388607 ≤ s ∧ s ≤ 8388607) (w : World) : Calls Try.prog 103 #[.int .i64 s] w fun e w' => e = .returned (.int .i64 (max s (-s))) ∧ w = w' := by
  obtain ⟨h1, h2⟩ := h
  go_enter Try.func103, Try.ntmps103
  go_wp2_with fail
  go_ret
  exact ⟨by first | rfl | simp, rfl⟩
def DkAns (w : World) (r k : Nat) (F : Nat → Nat → Int) (e : Ending) (w' : World) : Prop := ∃ q cap vs, e = .returned (.slice (some ⟨q, 0, none⟩) r cap) ∧ r ≤ cap ∧ Pn w.heap.size vs q r k F w' ∧ Below w.heap.size w w'
theorem part_whole (b : List (List Int)) (v : Value) (w : World) (hM : MatIn w b v) (hv : validB b = true) (C : Nat) (hC : cols b = C) (V : Nat → Nat → Int) : Calls Try.prog 45 #[v, .int .i64 0, .int .i64 C] w (DkAns w b.length C (dkF (cellM b) V 0 0)) := by
  obtain ⟨pb1, pb2, pb3, hrow⟩ := validB_parts hv
  rw [hC] at pb3 hrow
  have h := part_own b v w hM pb2 0 C (Nat.zero_le _) (fun k hk => by rw [hrow k hk]; exact Nat.le_refl _) pb3 pb1
  refine Calls.mono (show Calls Try.prog 45 #[v, .int .i64 0, .int .i64 C] w _ from h) ?_
  rintro e w' ⟨q, cap, vs, rfl, h1, h2, h3⟩
  refine ⟨q, cap, vs, rfl, h1, h2.congr fun j i hj hi => ?_, h3⟩
  unfold dkF cellM
  rw [if_neg (by omega), partM_at hj, List.drop_zero, List.take_of_length_le (by rw [hrow j hj]; exact Nat.le_refl _)]

set_option maxHeartbeats 8000000 in
set_option maxRecDepth 100000 in
theorem refDuck_yes (b y : List (List Int)) (v vy : Value) (bd g : Int) (w : World) (hM : MatIn w b v) (hMy : MatIn w y vy) (hv : validB b = true) (hvy : validB y = true) (hbd : boundB bd = true) (hg : gainB g = true) (hCD : cols b = cols y) :
    Calls Try.prog 43 #[v, vy, .int .i64 bd, .int .i64 g] w (MatAns w (allM b (duckG y bd g)) 0) := by
  have h44 := refValidBlock_any b v w hM
  rw [hv] at h44
  have H44 : Hid (∀ x, Below w.heap.size w x → Calls Try.prog 44 #[vy] x fun e w' => e = .returned (.bool true) ∧ Below x.heap.size x w') := Lib.hid fun x hx => by
    have := refValidBlock_any y vy x (hMy.mono (Same.of_below hx))
    rwa [hvy] at this
  have H75 : Hid (∀ x, Calls Try.prog 75 #[.int .i64 g] x fun e w' => e = .returned (.bool true) ∧ x = w') := Lib.hid fun x => by
    have := gain_any g x
    rwa [hg] at this
  obtain ⟨pb1, pb2, pb3, hrow⟩ := validB_parts hv
  obtain ⟨py1, py2, _, hrowy⟩ := validB_parts hvy
  have hcab := cell_abs hv
  have hcaby := cell_abs hvy
  obtain ⟨bd1, bd2⟩ := boundB_t hbd
  have hn1 : ¬ bd < 0 := by omega
  have hn2 : ¬ 8388607 < bd := by omega
  obtain ⟨C, hC⟩ : ∃ C, cols b = C := ⟨_, rfl⟩
  have HCy : cols y = C := hCD.symm.trans hC
  rw [hC] at pb3 hrow
  rw [HCy] at hrowy
  have htab := allM_tab (G := duckG y bd g) hrow
  obtain ⟨V, hV⟩ : ∃ V : Nat → Nat → Int, V = fun j i => times (cellM b j i) (duckG y bd g i) := ⟨_, rfl⟩
  rw [← hV] at htab
  rw [htab]
  have H45 := Lib.hid (fun (x : World) (hx : Below w.heap.size w x) => part_whole b v x (hM.mono (Same.of_below hx)) hv C hC V)
  have HFIN : Hid (∀ (q cap N : Nat) (vs : Nat → Value) (W : World), b.length ≤ cap → Pn N vs q b.length C (dkF (cellM b) V C 0) W → MatIn W (tabM b.length C V) (.slice (some ⟨q, 0, none⟩) b.length cap)) := Lib.hid fun q cap N vs W hcap hp =>
    (hp.congr (G := V) fun j x hj hx => by unfold dkF; rw [if_pos (Or.inl hx)]).mat pb2 pb3 hcap fun j x _ _ => by rw [hV]; have := times_bd (cellM b j x) (duckG y bd g x); unfold I64; dsimp only; omega
  have H72 : Hid (∀ (j k : Nat) (x : World), loudB y bd k = true → Calls Try.prog 72 #[.int .i64 (cellM b j k), .int .i64 g] x fun e w' => e = .returned (.int .i64 (V j k)) ∧ ∃ m, w' = x.drewN m) := Lib.hid fun j k x hl => by
    rw [hV]
    have := times_any (cellM b j k) g (hcab j k) (gainB_t hg) x
    have e : duckG y bd g k = g := by unfold duckG; rw [if_pos hl]
    dsimp only
    rwa [e]
  have HQ0 : Hid (∀ (j k : Nat), loudB y bd k = false → V j k = cellM b j k) := Lib.hid fun j k hl => by
    rw [hV]
    have e : duckG y bd g k = 65536 := by unfold duckG; rw [if_neg (by rw [hl]; decide)]
    dsimp only
    rw [e]
    exact times_one (hcab j k)
  have HCY : Hid (∀ j k, -8388607 ≤ cellM y j k ∧ cellM y j k ≤ 8388607) := Lib.hid fun j k => by have := hcaby j k; unfold cellM; omega
  obtain ⟨a, ca, rfl, hin, _, _⟩ := id hM
  obtain ⟨ay, cy, rfl, hiny, _, _⟩ := id hMy
  have HIB := Lib.hid (fun (x : World) (hx : Below w.heap.size w x) => hin.mono (Same.of_below hx))
  have HIY := Lib.hid (fun (x : World) (hx : Below w.heap.size w x) => hiny.mono (Same.of_below hx))
  obtain ⟨bb, ob, u, rfl, hcu, hu⟩ := hin 0 (by omega)
  obtain ⟨au, cu, rfl, _, _, _⟩ := hu
  change w.cell? _ = some (Value.slice au (cols b) cu) at hcu
  simp only [Nat.add_zero, hC] at hcu
  obtain ⟨b2, o2, u2, rfl, hcu2, hu2⟩ := hiny 0 (by omega)
  obtain ⟨a2, c2, rfl, _, _, _⟩ := hu2
  change w.cell? _ = some (Value.slice a2 (cols y) c2) at hcu2
  simp only [Nat.add_zero, HCy] at hcu2
  have HCU := Lib.hid (fun (x : World) (hx : Below w.heap.size w x) => (Same.of_below hx).cell hcu)
  have HCU2 := Lib.hid (fun (x : World) (hx : Below w.heap.size w x) => (Same.of_below hx).cell hcu2)
  have HROW := Lib.hid hrow
  have HROWY := Lib.hid hrowy
  have hposI : (0 : Int) < (b.length : Int) := by omega
  have hposN : 0 < b.length := by omega
  have hpoyI : (0 : Int) < (y.length : Int) := by omega
  have hpoyN : 0 < y.length := by omega
  have t1 : ((C : Int) != (C : Int)) = false := by simp
  clear hM hMy hv hvy hbd hg hCD hin hiny hcab hcaby hrow hrowy hC HCy hV htab hcu hcu2 bd1 bd2
  go_enter Try.func43, Try.ntmps43
  go_upto_region 5 with (first
    | (go_at_call 44; (with_reducible refine h44.mono ?_); rintro e w1 ⟨rfl, b1⟩; have B1 := Lib.hid b1; clear b1)
    | (go_at_call 44; (with_reducible refine (H44.out _ B1.out).mono ?_); rintro e w2 ⟨rfl, b2⟩; have B2 := Lib.hid (Below.then B1.out (Nat.le_refl _) b2); clear b2)
    | (go_at_call 75; (with_reducible refine (H75.out _).mono ?_); rintro e w3 ⟨rfl, rfl⟩))
  have hc1 := HCU.out _ B2.out
  have hc2 := HCU2.out _ B2.out
  go_quiet (fail)
  generalize hwx : w2.drewN _ = wx
  have hb0 : Below w.heap.size w wx := by rw [← hwx]; exact below_drewN B2.out _
  clear hwx hc1 hc2 h44
  have hc1 := HCU.out _ hb0
  have h45 := H45.out _ hb0
  have B3 := Lib.hid hb0
  clear hb0 B1 B2
  go_wp2_with (go_at_call 45; (with_reducible refine h45.mono ?_); rintro e w3 ⟨q, cap, vs, rfl, hcap, hpn, hb3⟩; have HP := Lib.hid hpn; have HB := Lib.hid (Below.then B3.out (Nat.le_refl _) hb3); have HL := Lib.hid B3.out.size; clear hpn hb3)
  obtain ⟨N, hN⟩ : ∃ N, wx.heap.size = N := ⟨_, rfl⟩
  rw [hN] at HP HL
  clear hc1 h45 hN
  go_loopw [11] (fun p wr => ∃ f : Nat, p = .int .i64 f ∧ f ≤ C ∧ Pn N vs q b.length C (dkF (cellM b) V f 0) wr ∧ Below w.heap.size w wr) (fun p _ => C - (intOf p).toNat)
  case atStart => exact ⟨0, rfl, Nat.zero_le _, HP.out, HB.out⟩
  case round =>
    clear HP HB
    obtain ⟨f, rfl, hf, hpn, hbl⟩ := hrel
    have hc1 := HCU.out _ hbl
    by_cases hlt : f < C
    · have wc : (f : Int) < (C : Int) := by omega
      go_wp2_with fail
      clear hc1
      obtain ⟨wo, rfl⟩ : ∃ wo : World, wo = wr := ⟨_, rfl⟩
      go_loopw [12, 13] (fun s p wr => ∃ (L : Bool) (j : Nat), s = .bool L ∧ p = .int .i64 j ∧ j ≤ y.length ∧ ((L = true → loudB y bd f = true) ∧ (L = false → ∀ k, k < j → loudR bd f (y.getD k []) = false)) ∧ Pn N vs q b.length C (dkF (cellM b) V f 0) wr ∧ Below w.heap.size w wr) (fun _ p _ => y.length - (intOf p).toNat)
      case atStart => exact ⟨false, 0, rfl, rfl, Nat.zero_le _, ⟨fun h => (by cases h), fun _ k hk => absurd hk (Nat.not_lt_zero _)⟩, hpn, hbl⟩
      case round =>
        clear hpn hbl
        obtain ⟨L, j, rfl, rfl, hj, hL, hpn, hbl⟩ := hrel
        have HP := Lib.hid hpn
        have HB := Lib.hid hbl
        have HLL := Lib.hid hL
        clear hL hpn
        by_cases hltj : j < y.length
        · have wj : (j : Int) < (y.length : Int) := by omega
          cases L with
          | true =>
            clear hbl
            go_wp2_with fail
            go_roundw
            case rel => exact ⟨true, j + 1, rfl, by go_num, by omega, ⟨HLL.out.1, fun h => (by cases h)⟩, HP.out, HB.out⟩
            case measure => simp [intOf]; omega
          | false =>
            obtain ⟨_, _, u1, e1, hcj, hu1⟩ := HIY.out wr hbl j hltj
            simp only [Option.some.injEq, Addr.mk.injEq, and_true] at e1
            obtain ⟨rfl, rfl⟩ := e1
            have hlj := HROWY.out j hltj
            have hcy := HCY.out j f
            have hyes := loudB_yes (bd := bd) (f := f) hltj
            have hlr : loudR bd f (y.getD j []) = decide (bd ≤ max (cellM y j f) (-(cellM y j f))) := rfl
            unfold cellM at hcy hlr
            obtain ⟨p, hp⟩ : ∃ p, y.getD j [] = p := ⟨_, rfl⟩
            rw [hp] at hu1 hlj hcy hyes hlr
            have HPP := Lib.hid hp
            obtain ⟨ap, cp, rfl, hpin, _, _⟩ := hu1
            obtain ⟨bp, op, rfl, hcp, _⟩ := hpin f (by omega)
            rw [hlj] at hcj
            obtain ⟨s, hs⟩ : ∃ s, p.getD f 0 = s := ⟨_, rfl⟩
            rw [hs] at hcp hcy hlr
            have h103 := above_any s hcy
            obtain ⟨M, hM⟩ : ∃ M, max s (-s) = M := ⟨_, rfl⟩
            rw [hM] at h103 hlr
            have H103 := Lib.hid h103
            have HY := Lib.hid hyes
            clear hpin hp hs hM h103 hcy hyes hbl hlj
            by_cases hle : bd ≤ M
            · have d1 : decide (bd ≤ M) = true := decide_eq_true hle
              rw [d1] at hlr
              have HLR := Lib.hid hlr
              clear hlr
              go_wp2_with (go_at_call 103; (with_reducible refine (H103.out _).mono ?_); rintro e w4 ⟨rfl, rfl⟩)
              go_roundw
              case rel => exact ⟨true, j + 1, by simp [hle], by go_num, by omega, ⟨fun _ => HY.out HLR.out, fun h => (by cases h)⟩, HP.out, HB.out⟩
              case measure => simp [intOf]; omega
            · have d1 : decide (bd ≤ M) = false := decide_eq_false hle
              rw [d1] at hlr
              have HLR := Lib.hid hlr
              clear hlr
              go_wp2_with (go_at_call 103; (with_reducible refine (H103.out _).mono ?_); rintro e w4 ⟨rfl, rfl⟩)
              go_roundw
              case rel =>
                refine ⟨false, j + 1, by simp [hle], by go_num, by omega, ⟨fun h => (by cases h), fun _ k hk => ?_⟩, HP.out, HB.out⟩
                by_cases e : k = j
                · subst e; rw [HPP.out]; exact HLR.out
                · exact HLL.out.2 (by first | trivial | rfl) k (by omega)
              case measure => simp [intOf]; omega
        · have wj : ¬ (j : Int) < (y.length : Int) := by omega
          obtain rfl : j = y.length := by omega
          clear hbl
          go_wp2_with fail
          obtain ⟨wp, rfl⟩ : ∃ wp : World, wp = wr := ⟨_, rfl⟩
          cases L with
          | false =>
            have hq : loudB y bd f = false := loudB_no (HLL.out.2 (by first | trivial | rfl))
            have HPF := Lib.hid (HP.out.congr (G := dkF (cellM b) V (f + 1) 0) fun j x _ _ => by
              unfold dkF
              by_cases e : x = f
              · subst e
                rw [if_neg (by omega), if_pos (by omega), HQ0.out j x hq]
              · by_cases e2 : x < f
                · rw [if_pos (by omega), if_pos (by omega)]
                · rw [if_neg (by omega), if_neg (by omega)])
            clear HP HLL hq
            go_loopw [14] (fun p wr => p = .int .i64 0 ∧ wr = wp) (fun p _ => 0)
            case atStart => exact ⟨rfl, rfl⟩
            case round =>
              obtain ⟨rfl, rfl⟩ := hrel
              go_wp2_with fail
              go_roundw
              case rel => exact ⟨f + 1, by go_num, by omega, HPF.out, HB.out⟩
              case measure => simp [intOf]; omega
          | true =>
            have hq : loudB y bd f = true := HLL.out.1 (by first | trivial | rfl)
            have H72f := Lib.hid (fun (j : Nat) (x : World) => H72.out j f x hq)
            clear HLL hq
            go_loopw [14] (fun p wr => ∃ c : Nat, p = .int .i64 c ∧ c ≤ b.length ∧ Pn N vs q b.length C (dkF (cellM b) V f c) wr ∧ Below w.heap.size w wr) (fun p _ => b.length - (intOf p).toNat)
            case atStart => exact ⟨0, rfl, Nat.zero_le _, HP.out, HB.out⟩
            case round =>
              clear HP HB
              obtain ⟨c, rfl, hc, hpn, hbl⟩ := hrel
              by_cases hltc : c < b.length
              · have wc2 : (c : Int) < (b.length : Int) := by omega
                have dc : decide (c < b.length) = true := decide_eq_true hltc
                obtain ⟨_, _, u1, e1, hc1, hu1⟩ := HIB.out wr hbl c hltc
                simp only [Option.some.injEq, Addr.mk.injEq, and_true] at e1
                obtain ⟨rfl, rfl⟩ := e1
                have hl1 := HROW.out c hltc
                have h72 := H72f.out c
                unfold cellM at h72
                obtain ⟨p, hp⟩ : ∃ p, b.getD c [] = p := ⟨_, rfl⟩
                rw [hp] at hu1 hl1 h72
                obtain ⟨ap, cp, rfl, hpin, _, _⟩ := hu1
                obtain ⟨bp, op, rfl, hcp, _⟩ := hpin f (by omega)
                rw [hl1] at hc1
                obtain ⟨s, hs⟩ : ∃ s, p.getD f 0 = s := ⟨_, rfl⟩
                rw [hs] at hcp h72
                obtain ⟨Q, cq, hvs, hlo⟩ := hpn.slice hltc (by omega)
                have hct := hpn.top c hltc
                rw [hvs] at hct
                obtain ⟨vv, hvv⟩ : ∃ vv, V c f = vv := ⟨_, rfl⟩
                have HAP := Lib.hid (fun (x : World) (hx : Pn N vs q b.length C (dkF (cellM b) V f c) x) => And.intro (hx.put hltc hlt hvs vv).1 (And.intro (hx.put hltc hlt hvs vv).2.1 ((hx.put hltc hlt hvs vv).2.2.congr (G := dkF (cellM b) V f (c + 1)) fun j x _ _ => by
                  unfold dkF
                  by_cases e : j = c ∧ x = f
                  · obtain ⟨rfl, rfl⟩ := e
                    rw [if_pos ⟨rfl, rfl⟩, if_pos (by omega)]
                    exact hvv.symm
                  · rw [if_neg e]
                    by_cases e2 : x < f ∨ (x = f ∧ j < c)
                    · rw [if_pos e2, if_pos (by omega)]
                    · rw [if_neg e2, if_neg (by omega)])))
                rw [hvv] at h72
                have H72' := Lib.hid h72
                have hS0 : ((wr.drew.cell? ⟨q, c, none⟩ = some (.slice (some ⟨Q, 0, none⟩) C cq) ∧ wr.drew.cell? ⟨bb, ob + c, none⟩ = some (.slice (some ⟨bp, op, none⟩) C cp)) ∧ wr.drew.cell? ⟨bp, op + f, none⟩ = some (.int .i64 s)) ∧ (Pn N vs q b.length C (dkF (cellM b) V f c) wr.drew ∧ Below w.heap.size w wr.drew) := ⟨⟨⟨hct, hc1⟩, hcp⟩, hpn.drew, hbl.drew⟩
                clear h72 hs hp hvv hbl hpn hct hpin hl1 hvs
                go_upto_region 19 with fail
                clear hc1 hcp
                refine region_T (S := fun x => ((x.cell? ⟨q, c, none⟩ = some (.slice (some ⟨Q, 0, none⟩) C cq) ∧ x.cell? ⟨bb, ob + c, none⟩ = some (.slice (some ⟨bp, op, none⟩) C cp)) ∧ x.cell? ⟨bp, op + f, none⟩ = some (.int .i64 s)) ∧ (Pn N vs q b.length C (dkF (cellM b) V f c) x ∧ Below w.heap.size w x)) [15] (by kernel_rfl) hS0 (fun _ => ?_)
                obtain ⟨W2, hW2⟩ : ∃ W2, wr.drew = W2 := ⟨_, rfl⟩
                rw [hW2] at hS0 ⊢
                clear hW2
                refine anyT_take (i := 0) (v := ?_) rfl (by kernel_rfl) (by kernel_rfl) (by kernel_rfl) (by kernel_rfl) (fun _ _ _ h => h) (Or.inl ⟨by rfl, ?_⟩) hS0 ?_
                rotate_left
                focus ((intro wq hSw; obtain ⟨⟨⟨q0, q1⟩, q2⟩, _⟩ := hSw; go_simp); try with_reducible rfl)
                try simp only [Act.put, List.getElem_toArray, List.getElem_cons_succ, List.getElem_cons_zero, List.setIfInBounds_toArray, List.set_cons_zero, List.set_cons_succ]
                refine anyT_take (i := 1) (v := ?_) rfl (by kernel_rfl) (by kernel_rfl) (by kernel_rfl) (by kernel_rfl) (fun _ _ _ h => h) (Or.inl ⟨by rfl, ?_⟩) hS0 ?_
                rotate_left
                focus ((intro wq hSw; obtain ⟨⟨⟨q0, q1⟩, q2⟩, _⟩ := hSw; go_simp); try with_reducible rfl)
                try simp only [Act.put, List.getElem_toArray, List.getElem_cons_succ, List.getElem_cons_zero, List.setIfInBounds_toArray, List.set_cons_zero, List.set_cons_succ]
                refine anyT_take (i := 2) (v := ?_) rfl (by kernel_rfl) (by kernel_rfl) (by kernel_rfl) (by kernel_rfl) (fun _ _ _ h => h) (Or.inl ⟨by rfl, ?_⟩) hS0 ?_
                rotate_left
                focus ((intro wq hSw; obtain ⟨⟨⟨q0, q1⟩, q2⟩, _⟩ := hSw; go_simp); try with_reducible rfl)
                try simp only [Act.put, List.getElem_toArray, List.getElem_cons_succ, List.getElem_cons_zero, List.setIfInBounds_toArray, List.set_cons_zero, List.set_cons_succ]
                refine anyT_take (i := 3) (v := ?_) rfl (by kernel_rfl) (by kernel_rfl) (by kernel_rfl) (by kernel_rfl) (fun _ _ _ h => h) (Or.inl ⟨by rfl, ?_⟩) hS0 ?_
                rotate_left
                focus ((intro wq hSw; obtain ⟨⟨⟨q0, q1⟩, q2⟩, _⟩ := hSw; go_simp); try with_reducible rfl)
                try simp only [Act.put, List.getElem_toArray, List.getElem_cons_succ, List.getElem_cons_zero, List.setIfInBounds_toArray, List.set_cons_zero, List.set_cons_succ]
                refine anyT_take (i := 4) (v := ?_) rfl (by kernel_rfl) (by kernel_rfl) (by kernel_rfl) (by kernel_rfl) (fun _ _ _ h => h) (Or.inl ⟨by rfl, ?_⟩) hS0 ?_
                rotate_left
                focus ((intro wq hSw; obtain ⟨⟨⟨q0, q1⟩, q2⟩, _⟩ := hSw; go_simp); try with_reducible rfl)
                try simp only [Act.put, List.getElem_toArray, List.getElem_cons_succ, List.getElem_cons_zero, List.setIfInBounds_toArray, List.set_cons_zero, List.set_cons_succ]
                refine anyT_take (i := 5) (v := ?_) rfl (by kernel_rfl) (by kernel_rfl) (by kernel_rfl) (by kernel_rfl) (fun _ _ _ h => h) (Or.inl ⟨by rfl, ?_⟩) hS0 ?_
                rotate_left
                focus ((intro wq hSw; obtain ⟨⟨⟨q0, q1⟩, q2⟩, _⟩ := hSw; go_simp); try with_reducible rfl)
                try simp only [Act.put, List.getElem_toArray, List.getElem_cons_succ, List.getElem_cons_zero, List.setIfInBounds_toArray, List.set_cons_zero, List.set_cons_succ]
                refine anyT_take (i := 6) (v := ?_) rfl (by kernel_rfl) (by kernel_rfl) (by kernel_rfl) (by kernel_rfl) (fun _ _ _ h => h) (Or.inl ⟨by rfl, ?_⟩) hS0 ?_
                rotate_left
                focus ((intro wq hSw; obtain ⟨⟨⟨q0, q1⟩, q2⟩, _⟩ := hSw; go_simp); try with_reducible rfl)
                try simp only [Act.put, List.getElem_toArray, List.getElem_cons_succ, List.getElem_cons_zero, List.setIfInBounds_toArray, List.set_cons_zero, List.set_cons_succ]
                refine anyT_take (i := 7) (v := ?_) rfl (by kernel_rfl) (by kernel_rfl) (by kernel_rfl) (by kernel_rfl) (fun _ _ _ h => h) (Or.inl ⟨by rfl, ?_⟩) hS0 ?_
                rotate_left
                focus ((intro wq hSw; obtain ⟨⟨⟨q0, q1⟩, q2⟩, _⟩ := hSw; go_simp); try with_reducible rfl)
                try simp only [Act.put, List.getElem_toArray, List.getElem_cons_succ, List.getElem_cons_zero, List.setIfInBounds_toArray, List.set_cons_zero, List.set_cons_succ]
                refine anyT_take (i := 8) (v := ?_) rfl (by kernel_rfl) (by kernel_rfl) (by kernel_rfl) (by kernel_rfl) (fun _ _ _ h => h) (Or.inl ⟨by rfl, ?_⟩) hS0 ?_
                rotate_left
                focus ((intro wq hSw; obtain ⟨⟨⟨q0, q1⟩, q2⟩, _⟩ := hSw; go_simp); try with_reducible rfl)
                try simp only [Act.put, List.getElem_toArray, List.getElem_cons_succ, List.getElem_cons_zero, List.setIfInBounds_toArray, List.set_cons_zero, List.set_cons_succ]
                refine anyT_take (i := 9) (v := ?_) rfl (by kernel_rfl) (by kernel_rfl) (by kernel_rfl) (by kernel_rfl) (fun _ _ _ h => h) (Or.inl ⟨by rfl, ?_⟩) hS0 ?_
                rotate_left
                focus ((intro wq hSw; obtain ⟨⟨⟨q0, q1⟩, q2⟩, _⟩ := hSw; go_simp); try with_reducible rfl)
                try simp only [Act.put, List.getElem_toArray, List.getElem_cons_succ, List.getElem_cons_zero, List.setIfInBounds_toArray, List.set_cons_zero, List.set_cons_succ]
                refine anyT_take (i := 10) (v := ?_) rfl (by kernel_rfl) (by kernel_rfl) (by kernel_rfl) (by kernel_rfl) (fun _ _ _ h => h) (Or.inl ⟨by rfl, ?_⟩) hS0 ?_
                rotate_left
                focus ((intro wq hSw; obtain ⟨⟨⟨q0, q1⟩, q2⟩, _⟩ := hSw; go_simp); try with_reducible rfl)
                try simp only [Act.put, List.getElem_toArray, List.getElem_cons_succ, List.getElem_cons_zero, List.setIfInBounds_toArray, List.set_cons_zero, List.set_cons_succ]
                refine anyT_take (i := 11) (v := ?_) rfl (by kernel_rfl) (by kernel_rfl) (by kernel_rfl) (by kernel_rfl) (fun _ _ _ h => h) (Or.inl ⟨by rfl, ?_⟩) hS0 ?_
                rotate_left
                focus ((intro wq hSw; obtain ⟨⟨⟨q0, q1⟩, q2⟩, _⟩ := hSw; go_simp); try with_reducible rfl)
                try simp only [Act.put, List.getElem_toArray, List.getElem_cons_succ, List.getElem_cons_zero, List.setIfInBounds_toArray, List.set_cons_zero, List.set_cons_succ]
                refine anyT_take (i := 12) (v := ?_) rfl (by kernel_rfl) (by kernel_rfl) (by kernel_rfl) (by kernel_rfl) (fun _ _ _ h => h) (Or.inl ⟨by rfl, ?_⟩) hS0 ?_
                rotate_left
                focus ((intro wq hSw; obtain ⟨⟨⟨q0, q1⟩, q2⟩, _⟩ := hSw; go_simp); try with_reducible rfl)
                try simp only [Act.put, List.getElem_toArray, List.getElem_cons_succ, List.getElem_cons_zero, List.setIfInBounds_toArray, List.set_cons_zero, List.set_cons_succ]
                refine anyT_one (i := 13) (by kernel_rfl) rfl (fun K hK => ?_)
                go_simp
                refine (H72'.out _).mono ?_
                rintro e w5 ⟨rfl, m5, rfl⟩
                have hS2 : ((((W2.drewN m5).cell? ⟨q, c, none⟩ = some (.slice (some ⟨Q, 0, none⟩) C cq) ∧ (W2.drewN m5).cell? ⟨bb, ob + c, none⟩ = some (.slice (some ⟨bp, op, none⟩) C cp)) ∧ (W2.drewN m5).cell? ⟨bp, op + f, none⟩ = some (.int .i64 s)) ∧ (Pn N vs q b.length C (dkF (cellM b) V f c) (W2.drewN m5) ∧ Below w.heap.size w (W2.drewN m5))) := ⟨hS0.1, hS0.2.1.drewN m5, below_drewN hS0.2.2 m5⟩
                refine hK.out _ _ (fun _ => hS2) ?_
                clear hK K hS0
                obtain ⟨W4, hW4⟩ : ∃ W4, W2.drewN m5 = W4 := ⟨_, rfl⟩
                rw [hW4] at hS2 ⊢
                clear hW4
                try simp only [Act.put, List.getElem_toArray, List.getElem_cons_succ, List.getElem_cons_zero, List.setIfInBounds_toArray, List.set_cons_zero, List.set_cons_succ]
                refine anyT_take (i := 14) (v := ?_) rfl (by kernel_rfl) (by kernel_rfl) (by kernel_rfl) (by kernel_rfl) (fun _ _ _ h => h) (Or.inl ⟨by rfl, ?_⟩) hS2 ?_
                rotate_left
                focus ((intro wq hSw; obtain ⟨⟨⟨q0, q1⟩, q2⟩, _⟩ := hSw; go_simp); try with_reducible rfl)
                try simp only [Act.put, List.getElem_toArray, List.getElem_cons_succ, List.getElem_cons_zero, List.setIfInBounds_toArray, List.set_cons_zero, List.set_cons_succ]
                refine anyT_one (i := 15) (by kernel_rfl) rfl (fun K hK => ?_)
                obtain ⟨f1, f2, hst⟩ := HAP.out _ hS2.2.1
                have HST := Lib.hid hst
                have HBL := Lib.hid hS2.2.2
                clear hst hS2
                go_simp
                refine hK.out _ _ (fun h => by cases h) ?_
                clear hK K
                refine anyT_done (by kernel_rfl) ?_ _
                go_wp2_with fail
                go_roundw
                case rel => exact ⟨c + 1, by go_num, by omega, HST.out, HBL.out.setCell (Nat.le_trans HL.out hlo) _⟩
                case measure => simp [intOf]; omega
              · have wc2 : ¬ (c : Int) < (b.length : Int) := by omega
                have dc : decide (c < b.length) = false := decide_eq_false hltc
                obtain rfl : c = b.length := by omega
                have HPF := Lib.hid (hpn.congr (G := dkF (cellM b) V (f + 1) 0) fun j x hj _ => by
                  unfold dkF
                  by_cases e : x < f ∨ (x = f ∧ j < b.length)
                  · rw [if_pos e, if_pos (by omega)]
                  · rw [if_neg e, if_neg (by omega)])
                have HB := Lib.hid hbl
                clear hpn hbl
                go_wp2_with fail
                go_roundw
                case rel => exact ⟨f + 1, by go_num, by omega, HPF.out, HB.out⟩
                case measure => simp [intOf]; omega
    · have wc : ¬ (f : Int) < (C : Int) := by omega
      obtain rfl : f = C := by omega
      have hm := HFIN.out q cap N vs wr hcap hpn
      have HM := Lib.hid hm
      have HBL := Lib.hid hbl
      clear hm hpn hbl
      go_wp2_with fail
      go_ret2
      exact ⟨_, rfl, HM.out, HBL.out⟩
end Go.Proofs.Ythfagnbecocgdaa
