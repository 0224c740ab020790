/- The document's Join. -/
import Derived.Test.YtpjmiiejmkgmdaaRA
import Derived.Test.YtpjmiiejmkgmdaaLD
namespace Go.Proofs.Ytpjmiiejmkgmdaa
open Go.RowKit Go.Deep

/-- What the grid holds when row i is done up to number k. -/
def jnF (V : Nat → Nat → Int) (i k j x : Nat) : Int := if j < i ∨ (j = i ∧ x < k) then V j x else 0
theorem Gn.jn {B g r c : Nat} {gs : Nat → Nat} {V : Nat → Nat → Int} {W : World} {i k : Nat} (h : Gn B g gs r c (jnF V i k) W) (hi : i < r) : Gn B g gs r c (jnF V i (k + 1)) (W.setCell ⟨gs i, k, none⟩ (.int .i64 (V i k))) := by
  refine (h.set hi k _).congr fun j x hj hx => ?_
  unfold jnF
  by_cases e : j = i ∧ x = k
  · obtain ⟨rfl, rfl⟩ := e; simp
  · rw [if_neg e]
    by_cases e2 : j < i ∨ (j = i ∧ x < k)
    · rw [if_pos e2, if_pos (by omega)]
    · rw [if_neg e2, if_neg (by omega)]

set_option maxHeartbeats 4000000 in
set_option maxRecDepth 100000 in
/-- b the first, m the second. -/
theorem refJoin_ok (m b : List (List Int)) (va vb : Value) (w : World) (hm : MatIn w m va) (hb : MatIn w b vb) (hvm : validM m = true) (hvb : validM b = true) (hsz : b.length = cols m) :
    Calls Try.prog 38 #[vb, va] w (MatAns w (joinM b m) 0) := by
  obtain ⟨pm1, pm2, pm3, pm4⟩ := validM_parts hvm
  obtain ⟨pb1, pb2, pb3, pb4⟩ := validM_parts hvb
  have hbb : ∀ k f, (cellM b k f).natAbs ≤ 8388607 := fun k f => Nat.le_trans (pb4 k f) (by omega)
  have h34b := refValidMatrix_any b _ w hb
  rw [hvb] at h34b
  have H34m := Lib.hid (fun (x : World) (hx : Below w.heap.size w x) => refValidMatrix_any m _ x (hm.mono (Same.of_below hx)))
  rw [hvm] at H34m
  obtain ⟨a, ca, rfl, hin, _, _⟩ := id hm
  obtain ⟨b0, cb, rfl, hinb, _, _⟩ := id hb
  have H48 := Lib.hid (fun (x : World) => nothing_gn m.length (cols b) pm1.1 pm1.2 (by omega) x)
  obtain ⟨bq, oq, uq, hbq, hcq, hu⟩ := hinb 0 (by omega)
  obtain ⟨au, cu, rfl, _, _, _⟩ := hu
  change w.cell? _ = some (Value.slice au (cols b) cu) at hcq
  simp only [Nat.add_zero] at hcq
  subst hbq
  obtain ⟨mq, mo, mu, hmq, hcm0, hmu⟩ := hin 0 (by omega)
  obtain ⟨am, cm0, rfl, _, _, _⟩ := hmu
  change w.cell? _ = some (Value.slice am (cols m) cm0) at hcm0
  simp only [Nat.add_zero] at hcm0
  subst hmq
  rw [← hsz] at hcm0
  obtain ⟨V, hV⟩ : ∃ V : Nat → Nat → Int, V = fun i f => clipI 655360 (dotTo (m.getD i []) b f (m.getD i []).length) := ⟨_, rfl⟩
  have hfin : ∀ (B g cap : Nat) (gs : Nat → Nat) (W : World), m.length ≤ cap → Gn B g gs m.length (cols b) (jnF V m.length 0) W → MatIn W (joinM b m) (.slice (some ⟨g, 0, none⟩) m.length cap) := fun B g cap gs W hcap hg => by
    have h1 := (hg.congr (G := V) fun j x hj hx => by unfold jnF; rw [if_pos (Or.inl hj)]).mat pm1.2 (by omega) hcap fun j x _ _ => by
      rw [hV]; have := clipI_bd (k := 655360) (by omega) (dotTo (m.getD j []) b x (m.getD j []).length); unfold I64; dsimp only; omega
    rw [hV] at h1
    exact h1
  have hrowlen : ∀ i, i < m.length → (m.getD i []).length = b.length := fun i hi => by rw [pm3 i hi, hsz]
  have hval : ∀ i f, i < m.length → V i f = clipI 655360 (dotTo (m.getD i []) b f b.length) := fun i f hi => by rw [hV]; dsimp only; rw [hrowlen i hi]
  have hbd : ∀ i f k, k ≤ 8 → (dotTo (m.getD i []) b f k).natAbs ≤ 1000000000000 * 44 := fun i f k hk => by
    have := dotTo_abs hbb (pm4 i) f k
    have h2 : k * 5497557483520 ≤ 8 * 5497557483520 := Nat.mul_le_mul_right _ hk
    omega
  have hb8 : b.length ≤ 8 := pb1.2
  have hbpos : 0 < b.length := by omega
  have hbposI : (0 : Int) < (b.length : Int) := by omega
  have hmpos : 0 < m.length := by omega
  have hmposI : (0 : Int) < (m.length : Int) := by omega
  have HFIN := Lib.hid hfin
  have HVAL := Lib.hid hval
  have HBD := Lib.hid hbd
  have HRL := Lib.hid hrowlen
  have HPB := Lib.hid pb3
  have HP4 := Lib.hid pm4
  have HBB := Lib.hid hbb
  have HIM := Lib.hid (fun (x : World) (hx : Below w.heap.size w x) => hin.mono (Same.of_below hx))
  have HIB := Lib.hid (fun (x : World) (hx : Below w.heap.size w x) => hinb.mono (Same.of_below hx))
  have HCQ := Lib.hid (fun (x : World) (hx : Below w.heap.size w x) => (Same.of_below hx).cell hcq)
  have HCM0 := Lib.hid (fun (x : World) (hx : Below w.heap.size w x) => (Same.of_below hx).cell hcm0)
  obtain ⟨C, hC⟩ : ∃ C, cols b = C := ⟨_, rfl⟩
  rw [hC] at H48 HFIN HCQ hcq pb2
  have HC := Lib.hid hC
  clear hfin hval hbd hrowlen pm1 pm2 pm3 pm4 pb1 pb3 pb4 hbb hin hinb hm hb hvm hvb hsz hV hC
  go_enter Try.func38, Try.ntmps38
  go_wp2_with (first
    | (go_at_call 34; (with_reducible refine h34b.mono ?_); rintro e w1 ⟨rfl, b1⟩; have B1 := Lib.hid b1; clear b1 h34b)
    | (go_at_call 34; (with_reducible refine (H34m.out _ B1.out).mono ?_); rintro e w2 ⟨rfl, b2⟩; have B2 := Lib.hid (Below.then B1.out (Nat.le_refl _) b2); have c2 := HCQ.out _ B2.out; have c3 := HCM0.out _ B2.out; clear b2)
    | (go_at_call 48; (with_reducible refine (H48.out _).mono ?_); rintro e w3 ⟨g, cap, gs, rfl, hcap, hgn, b3⟩; have B3 := Lib.hid (Below.then B2.out (Nat.le_refl _) b3); have HG3 := Lib.hid hgn; have hB : w.heap.size ≤ w2.heap.size := B2.out.size; clear b3 hgn c2 c3))
  clear hcq hcm0
  go_loopw [7] (fun p wr => ∃ i : Nat, p = .int .i64 i ∧ i ≤ m.length ∧ Gn w2.heap.size g gs m.length C (jnF V i 0) wr ∧ Below w.heap.size w wr) (fun p _ => m.length - (intOf p).toNat)
  case atStart => exact ⟨0, rfl, Nat.zero_le _, HG3.out.congr fun j x _ _ => by simp [jnF], B3.out⟩
  case round =>
    clear HG3 B3
    obtain ⟨i, rfl, hi, hgn, hbl⟩ := hrel
    by_cases hlti : i < m.length
    · have wi : (i : Int) < (m.length : Int) := by omega
      go_wp2_with fail
      obtain ⟨wo, rfl⟩ : ∃ wo : World, wo = wr := ⟨_, rfl⟩
      go_loopw [8] (fun p wr => ∃ f : Nat, p = .int .i64 f ∧ f ≤ C ∧ Gn w2.heap.size g gs m.length C (jnF V i f) wr ∧ Below w.heap.size w wr) (fun p _ => C - (intOf p).toNat)
      case atStart => exact ⟨0, rfl, Nat.zero_le _, hgn, hbl⟩
      case round =>
        clear hgn hbl
        obtain ⟨f, rfl, hf, hgn, hbl⟩ := hrel
        have hct0 := hgn.top i hlti
        by_cases hlt : f < C
        · have wf : (f : Int) < (C : Int) := by omega
          go_wp2_with fail
          clear hct0
          obtain ⟨wo2, rfl⟩ : ∃ wo2 : World, wo2 = wr := ⟨_, rfl⟩
          go_loopw [9, 10] (fun s p wr => ∃ k : Nat, p = .int .i64 k ∧ k ≤ b.length ∧ s = .int .i64 (dotTo (m.getD i []) b f k) ∧ Gn w2.heap.size g gs m.length C (jnF V i f) wr ∧ Below w.heap.size w wr) (fun _ p _ => b.length - (intOf p).toNat)
          case atStart => exact ⟨0, rfl, Nat.zero_le _, rfl, hgn, hbl⟩
          case round =>
            clear hgn hbl
            obtain ⟨k, rfl, hk, rfl, hgn, hbl⟩ := hrel
            have hbdk := HBD.out i f k (by omega)
            have hsucc := dotTo_succ (m.getD i []) b f k
            obtain ⟨s, hs⟩ : ∃ s, dotTo (m.getD i []) b f k = s := ⟨_, rfl⟩
            rw [hs] at hbdk hsucc ⊢
            by_cases hltk : k < b.length
            · obtain ⟨bm, om, um, ebm, hcm, hum⟩ := (HIM.out wr hbl) i hlti
              simp only [Option.some.injEq, Addr.mk.injEq, and_true] at ebm
              obtain ⟨rfl, rfl⟩ := ebm
              obtain ⟨bk, ok, uk, ebk, hck, huk⟩ := (HIB.out wr hbl) k hltk
              simp only [Option.some.injEq, Addr.mk.injEq, and_true] at ebk
              obtain ⟨rfl, rfl⟩ := ebk
              have hl1 := HRL.out i hlti
              have hl2 := HPB.out k hltk
              rw [HC.out] at hl2
              obtain ⟨d1, hd1⟩ : ∃ d1, dotTo (m.getD i []) b f (k + 1) = d1 := ⟨_, rfl⟩
              rw [hd1] at hsucc
              have HD1 := Lib.hid hd1
              clear hd1
              have hx1 := HP4.out i k
              have hy1 := HBB.out k f
              unfold cellM at hy1 hsucc
              obtain ⟨p, hp⟩ : ∃ p, m.getD i [] = p := ⟨_, rfl⟩
              obtain ⟨q, hq⟩ : ∃ q, b.getD k [] = q := ⟨_, rfl⟩
              rw [hp] at hum hl1 hx1 hsucc
              rw [hq] at huk hl2 hy1 hsucc
              obtain ⟨ap, cp, rfl, hpin, _, _⟩ := hum
              obtain ⟨aq, cq, rfl, hqin, _, _⟩ := huk
              obtain ⟨bp, op, rfl, hcp, _⟩ := hpin k (by omega)
              obtain ⟨bq2, oq2, rfl, hcq2, _⟩ := hqin f (by omega)
              rw [hl1] at hcm
              rw [hl2] at hck
              obtain ⟨x, hx⟩ : ∃ x, p.getD k 0 = x := ⟨_, rfl⟩
              obtain ⟨y, hy⟩ : ∃ y, q.getD f 0 = y := ⟨_, rfl⟩
              rw [hx] at hcp hx1 hsucc
              rw [hy] at hcq2 hy1 hsucc
              have hpr := bd_of (abs_mul hx1 hy1)
              obtain ⟨p1, p2⟩ := hpr
              have s1 : -44000000000000 ≤ s := by omega
              have s2 : s ≤ 44000000000000 := by omega
              have wk : (k : Int) < (b.length : Int) := by omega
              have e1 : IntKind.i64.wrap (x * y) = x * y := IntWalk.i64_in _ (by omega)
              have e2 : IntKind.i64.wrap (s + x * y) = s + x * y := IntWalk.i64_in _ (by omega)
              have HSU := Lib.hid hsucc
              have HGN := Lib.hid hgn
              have HBL := Lib.hid hbl
              clear hs hsucc hgn hbl hp hq hx hy hl1 hl2 hx1 hy1 hbdk
              go_wp2_with fail
              go_quiet (fail)
              go_wp2_with fail
              go_roundw
              case rel => exact ⟨k + 1, by go_num, by omega, by rw [HD1.out, HSU.out], HGN.out.drewN _, below_drewN HBL.out _⟩
              case measure => simp [intOf]; omega
            · have wk : ¬ (k : Int) < (b.length : Int) := by omega
              obtain rfl : k = b.length := by omega
              have hvx := HVAL.out i f hlti
              rw [hs] at hvx
              have HRO := Lib.hid (fun (x : World) => refRounded_any s x (by omega) (by omega))
              have HCL := Lib.hid (fun (x : World) => bounded_any (roundI s) (-655360) 655360 x)
              rw [clipI_max (by omega), ← hvx] at HCL
              have hct := hgn.top i hlti
              have hlow : w.heap.size ≤ gs i := Nat.le_trans hB (hgn.lo i hlti)
              have HAP := Lib.hid (fun (x : World) (hx : Gn w2.heap.size g gs m.length C (jnF V i f) x) => And.intro ((hx.rows i hlti).cell hlt) (And.intro ((hx.rows i hlti).frozen f) (hx.jn hlti)))
              have HTOP := Lib.hid (fun (x : World) (hx : Gn w2.heap.size g gs m.length C (jnF V i f) x) => hx.top i hlti)
              obtain ⟨rv, hrv⟩ : ∃ rv, roundI s = rv := ⟨_, rfl⟩
              rw [hrv] at HRO HCL
              obtain ⟨vv, hvv⟩ : ∃ vv, V i f = vv := ⟨_, rfl⟩
              rw [hvv] at HCL HAP
              have hS0 : wr.drew.cell? ⟨g, i, none⟩ = some (.slice (some ⟨gs i, 0, none⟩) C C) ∧ (Gn w2.heap.size g gs m.length C (jnF V i f) wr.drew ∧ Below w.heap.size w wr.drew) := ⟨hct, hgn.drew, hbl.drew⟩
              clear hs hvx hrv hvv hbl hgn hbdk hsucc hct
              go_wp2_with fail
              refine region_T (S := fun wx => wx.cell? ⟨g, i, none⟩ = some (.slice (some ⟨gs i, 0, none⟩) C C) ∧ (Gn w2.heap.size g gs m.length C (jnF V i f) wx ∧ Below w.heap.size w wx)) [9] (by kernel_rfl) hS0 (fun _ => ?_)
              obtain ⟨W2, hW2⟩ : ∃ W2, wr.drew = W2 := ⟨_, rfl⟩
              rw [hW2] at hS0 ⊢
              clear hW2
              refine anyT_take (i := 0) (v := ?_) rfl (by kernel_rfl) (by kernel_rfl) (by kernel_rfl) (by kernel_rfl) (fun _ _ _ h => h) (Or.inl ⟨by rfl, ?_⟩) (by assumption) ?_
              rotate_left
              focus ((intro wq hSw; (try dsimp only at hSw); go_simp); try with_reducible rfl)
              try simp only [Act.put, List.setIfInBounds_toArray, List.set_cons_zero, List.set_cons_succ]
              refine anyT_take (i := 1) (v := ?_) rfl (by kernel_rfl) (by kernel_rfl) (by kernel_rfl) (by kernel_rfl) (fun _ _ _ h => h) (Or.inl ⟨by rfl, ?_⟩) (by assumption) ?_
              rotate_left
              focus ((intro wq hSw; (try dsimp only at hSw); go_simp); try with_reducible rfl)
              try simp only [Act.put, List.setIfInBounds_toArray, List.set_cons_zero, List.set_cons_succ]
              refine anyT_take (i := 2) (v := ?_) rfl (by kernel_rfl) (by kernel_rfl) (by kernel_rfl) (by kernel_rfl) (fun _ _ _ h => h) (Or.inl ⟨by rfl, ?_⟩) (by assumption) ?_
              rotate_left
              focus ((intro wq hSw; (try dsimp only at hSw); go_simp); try with_reducible rfl)
              try simp only [Act.put, List.setIfInBounds_toArray, List.set_cons_zero, List.set_cons_succ]
              refine anyT_take (i := 3) (v := ?_) rfl (by kernel_rfl) (by kernel_rfl) (by kernel_rfl) (by kernel_rfl) (fun _ _ _ h => h) (Or.inl ⟨by rfl, ?_⟩) (by assumption) ?_
              rotate_left
              focus ((intro wq hSw; (try dsimp only at hSw); go_simp); try with_reducible rfl)
              try simp only [Act.put, List.setIfInBounds_toArray, List.set_cons_zero, List.set_cons_succ]
              refine anyT_take (i := 4) (v := ?_) rfl (by kernel_rfl) (by kernel_rfl) (by kernel_rfl) (by kernel_rfl) (fun _ _ _ h => h) (Or.inl ⟨by rfl, ?_⟩) (by assumption) ?_
              rotate_left
              focus ((intro wq hSw; (try dsimp only at hSw); go_simp); try with_reducible rfl)
              try simp only [Act.put, List.setIfInBounds_toArray, List.set_cons_zero, List.set_cons_succ]
              refine anyT_take (i := 5) (v := ?_) rfl (by kernel_rfl) (by kernel_rfl) (by kernel_rfl) (by kernel_rfl) (fun _ _ _ h => h) (Or.inl ⟨by rfl, ?_⟩) (by assumption) ?_
              rotate_left
              focus ((intro wq hSw; (try dsimp only at hSw); go_simp); try with_reducible rfl)
              try simp only [Act.put, List.setIfInBounds_toArray, List.set_cons_zero, List.set_cons_succ]
              refine anyT_one (i := 6) (by kernel_rfl) rfl (fun K hK => ?_)
              go_simp
              refine (HRO.out _).mono ?_
              rintro e w4 ⟨rfl, n4, rfl⟩
              refine hK.out _ _ (fun _ => ⟨hS0.1, hS0.2.1.drewN n4, below_drewN hS0.2.2 n4⟩) ?_
              clear hK K
              try simp only [Act.put, List.setIfInBounds_toArray, List.set_cons_zero, List.set_cons_succ]
              refine anyT_one (i := 7) (by kernel_rfl) rfl (fun K hK => ?_)
              go_simp
              refine (HCL.out _).mono ?_
              rintro e w5 ⟨rfl, rfl⟩
              refine hK.out _ _ (fun _ => ⟨hS0.1, hS0.2.1.drewN n4, below_drewN hS0.2.2 n4⟩) ?_
              clear hK K
              try simp only [Act.put, List.setIfInBounds_toArray, List.set_cons_zero, List.set_cons_succ]
              have hgf : f < C := hlt
              refine anyT_one (i := 8) (by kernel_rfl) rfl (fun K hK => ?_)
              go_simp
              refine hK.out _ _ (fun _ => ⟨hS0.1, hS0.2.1.drewN n4, below_drewN hS0.2.2 n4⟩) ?_
              clear hK K
              try simp only [Act.put, List.setIfInBounds_toArray, List.set_cons_zero, List.set_cons_succ]
              refine anyT_one (i := 9) (by kernel_rfl) rfl (fun K hK => ?_)
              obtain ⟨f1, f2, hst⟩ := HAP.out _ (hS0.2.1.drewN n4)
              have HST := Lib.hid hst
              have HBL := Lib.hid (below_drewN hS0.2.2 n4)
              clear hst hS0
              obtain ⟨W5, hW5⟩ : ∃ W5, W2.drewN n4 = W5 := ⟨_, rfl⟩
              rw [hW5] at f1 f2 HST HBL ⊢
              clear hW5
              go_simp
              refine hK.out _ _ (fun h => by cases h) ?_
              clear hK K
              refine anyT_done (by kernel_rfl) ?_ _
              go_wp2_with fail
              go_roundw
              case rel => exact ⟨f + 1, by go_num, by omega, HST.out, HBL.out.setCell hlow _⟩
              case measure => simp [intOf]; omega
        · have wf : ¬ (f : Int) < (C : Int) := by omega
          obtain rfl : f = C := by omega
          have HGN := Lib.hid hgn
          have HBL := Lib.hid hbl
          clear hgn hbl
          go_wp2_with fail
          go_roundw
          case rel => exact ⟨i + 1, by go_num, by omega, HGN.out.congr (fun j x hj hx => by
            unfold jnF
            by_cases e : j < i ∨ (j = i ∧ x < f)
            · rw [if_pos e, if_pos (by omega)]
            · rw [if_neg e, if_neg (by omega)]), HBL.out⟩
          case measure => simp [intOf]; omega
    · have wi : ¬ (i : Int) < (m.length : Int) := by omega
      obtain rfl : i = m.length := by omega
      have hm := HFIN.out _ _ cap _ _ hcap hgn
      have HM := Lib.hid hm
      have HBL := Lib.hid hbl
      clear hm hgn hbl
      go_wp2_with fail
      go_ret2
      exact ⟨_, rfl, HM.out, HBL.out⟩

set_option maxHeartbeats 2000000 in
set_option maxRecDepth 100000 in
/-- a the first, s the second, whatever both are. -/
theorem refJoin_any (a s : List (List Int)) (va vs : Value) (w : World) (ha : MatIn w a va) (hs : MatIn w s vs) : Calls Try.prog 38 #[va, vs] w (MatAns w (joinR a s) (joinE a s)) := by
  have h34 := refValidMatrix_any a va w ha
  have H34 := Lib.hid (fun (x : World) (hx : Below w.heap.size w x) => refValidMatrix_any s vs x (hs.mono (Same.of_below hx)))
  cases hva : validM a with
  | false =>
    rw [hva] at h34
    rw [show joinE a s = 1 by simp [joinE, hva], show joinR a s = [] by simp [joinR, joinE, hva]]
    clear hva ha hs
    go_enter Try.func38, Try.ntmps38
    go_wp2_with (go_at_call 34; (with_reducible refine h34.mono ?_); rintro e w1 ⟨rfl, b1⟩)
    go_ret2
    exact ⟨_, rfl, mat_nil _, b1⟩
  | true =>
    rw [hva] at h34
    cases hvs : validM s with
    | false =>
      rw [hvs] at H34
      rw [show joinE a s = 1 by simp [joinE, hvs], show joinR a s = [] by simp [joinR, joinE, hvs]]
      clear hva hvs ha hs
      go_enter Try.func38, Try.ntmps38
      go_wp2_with (first | (go_at_call 34; (with_reducible refine h34.mono ?_); rintro e w1 ⟨rfl, b1⟩; have B1 := Lib.hid b1; clear b1 h34) | (go_at_call 34; (with_reducible refine (H34.out _ B1.out).mono ?_); rintro e w2 ⟨rfl, b2⟩))
      go_ret2
      exact ⟨_, rfl, mat_nil _, Below.then B1.out (Nat.le_refl _) b2⟩
    | true =>
      by_cases hsz : a.length = cols s
      · rw [show joinE a s = 0 by simp [joinE, hva, hvs, hsz], show joinR a s = joinM a s by simp [joinR, joinE, hva, hvs, hsz]]
        exact refJoin_ok s a vs va w hs ha hvs hva hsz
      · rw [hvs] at H34
        obtain ⟨ps1, _, _, _⟩ := validM_parts hvs
        rw [show joinE a s = 11 by simp [joinE, hva, hvs, hsz], show joinR a s = [] by simp [joinR, joinE, hva, hvs, hsz]]
        obtain ⟨a0, ca, rfl, _, _, _⟩ := id ha
        obtain ⟨b0, cb, rfl, hin, _, _⟩ := id hs
        obtain ⟨bq, oq, uq, rfl, hcq, hu⟩ := hin 0 (by omega)
        obtain ⟨au, cu, rfl, _, _, _⟩ := hu
        change w.cell? _ = some (Value.slice au (cols s) cu) at hcq
        simp only [Nat.add_zero] at hcq
        have HCQ := Lib.hid (fun (x : World) (hx : Below w.heap.size w x) => (Same.of_below hx).cell hcq)
        have hposI : (0 : Int) < (s.length : Int) := by omega
        have hposN : 0 < s.length := by omega
        have hne : ((a.length : Int) != (cols s : Int)) = true := by simp; omega
        obtain ⟨C, hC⟩ : ∃ C, cols s = C := ⟨_, rfl⟩
        rw [hC] at HCQ hne
        clear hva hvs ha hs hin hcq hsz hC
        go_enter Try.func38, Try.ntmps38
        go_wp2_with (first
          | (go_at_call 34; (with_reducible refine h34.mono ?_); rintro e w1 ⟨rfl, b1⟩; have B1 := Lib.hid b1; clear b1 h34)
          | (go_at_call 34; (with_reducible refine (H34.out _ B1.out).mono ?_); rintro e w2 ⟨rfl, b2⟩; have B2 := Lib.hid (Below.then B1.out (Nat.le_refl _) b2); have c2 := HCQ.out _ B2.out; clear b2))
        go_ret2
        exact ⟨_, rfl, mat_nil _, B2.out⟩
end Go.Proofs.Ytpjmiiejmkgmdaa
