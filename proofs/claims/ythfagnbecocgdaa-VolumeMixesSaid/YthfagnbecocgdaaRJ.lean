/- The document's Ramp and Apply. -/
import Derived.Test.YthfagnbecocgdaaRI
import Derived.Test.YthfagnbecocgdaaLA
import Derived.Test.YthfagnbecocgdaaEE
namespace Go.Proofs.Ythfagnbecocgdaa
open Go.RowKit Go.Shelf Go.Deep

set_option maxRecDepth 100000 in
theorem grown_any (f t n i : Int) (hf : 0 ≤ f ∧ f ≤ 655360) (ht : 0 ≤ t ∧ t ≤ 655360) (hn : 0 ≤ n ∧ n ≤ 1000000000) (hi : 0 ≤ i ∧ i ≤ 1000000000) (w : World) :
    Calls Try.prog 84 #[.int .i64 f, .int .i64 t, .int .i64 n, .int .i64 i] w fun e w' => e = .returned (.int .i64 (grownI f t n i)) ∧ ∃ m, w' = w.drewN m := by
  by_cases hz : n ≤ i
  · rw [show grownI f t n i = t by unfold grownI; rw [if_pos hz]]
    go_enter Try.func84, Try.ntmps84
    go_wp2_with fail
    go_ret
    exact ⟨rfl, 0, rfl⟩
  · have hgb := grownI_gain (f := f) (t := t) (n := n) (a := i) ⟨hf, ht, hn, by omega⟩
    have hm := ramp_mul hf ht hi
    obtain ⟨m1, m2⟩ := hm
    have hr := refRounded_any ((t - f) * i) n w (by omega) (by omega) (by omega) (by omega)
    have eg : grownI f t n i = f + rnd ((t - f) * i) n := by unfold grownI; rw [if_neg hz]
    rw [eg] at hgb ⊢
    obtain ⟨r, hrr⟩ : ∃ r, rnd ((t - f) * i) n = r := ⟨_, rfl⟩
    rw [hrr] at hr hgb ⊢
    obtain ⟨g1, g2⟩ := hgb
    obtain ⟨f1, f2⟩ := hf
    obtain ⟨t1, t2⟩ := ht
    clear hrr eg hn hi
    go_enter Try.func84, Try.ntmps84
    go_wp2_with (go_at_call 91; (with_reducible refine hr.mono ?_); rintro e w1 ⟨rfl, m, rfl⟩)
    go_ret
    exact ⟨rfl, m, rfl⟩
set_option maxRecDepth 100000 in
theorem times_any (s g : Int) (hs : s.natAbs ≤ 8388607) (hg : 0 ≤ g ∧ g ≤ 655360) (w : World) : Calls Try.prog 72 #[.int .i64 s, .int .i64 g] w fun e w' => e = .returned (.int .i64 (times s g)) ∧ ∃ m, w' = w.drewN m := by
  obtain ⟨m1, m2⟩ := times_mul hs hg
  have hr := refRounded_any (s * g) 65536 w (by omega) (by omega) (by decide) (by decide)
  have H100 := Lib.hid (fun (x : World) => clip_any (rnd (s * g) 65536) x)
  unfold times
  clear hs hg
  go_enter Try.func72, Try.ntmps72
  go_wp2_with (first | (go_at_call 91; (with_reducible refine hr.mono ?_); rintro e w1 ⟨rfl, m, rfl⟩) | (go_at_call 100; (with_reducible refine (H100.out _).mono ?_); rintro e w1 ⟨rfl, rfl⟩))
  go_ret
  exact ⟨rfl, m, rfl⟩

/-- What the grid holds when the channels below c are done, and f frames of it. -/
def rdF (V : Nat → Nat → Int) (c f j x : Nat) : Int := if j < c ∨ (j = c ∧ x < f) then V j x else 0
theorem Gn.rd {B g r k : Nat} {gs : Nat → Nat} {V : Nat → Nat → Int} {W : World} {c f : Nat} (h : Gn B g gs r k (rdF V c f) W) (hc : c < r) : Gn B g gs r k (rdF V c (f + 1)) (W.setCell ⟨gs c, f, none⟩ (.int .i64 (V c f))) := by
  refine (h.set hc f _).congr fun j x hj hx => ?_
  unfold rdF
  by_cases e : j = c ∧ x = f
  · obtain ⟨rfl, rfl⟩ := e; simp
  · rw [if_neg e]
    by_cases e2 : j < c ∨ (j = c ∧ x < f)
    · rw [if_pos e2, if_pos (by omega)]
    · rw [if_neg e2, if_neg (by omega)]
theorem allM_tab {b : List (List Int)} {G : Nat → Int} {k : Nat} (h : ∀ j, j < b.length → (b.getD j []).length = k) : allM b G = tabM b.length k (fun j i => times (cellM b j i) (G i)) := by
  apply mat_eq_of (by rw [allM_len, tabM_len])
  intro j hj
  rw [allM_len] at hj
  rw [allM_at hj, tabM_row _ hj]
  unfold scaledR cellM
  rw [h j hj]

set_option maxHeartbeats 4000000 in
set_option maxRecDepth 100000 in
theorem refRamp_yes (b : List (List Int)) (v : Value) (f t n : Int) (w : World) (hM : MatIn w b v) (hv : validB b = true) (hr : rampB f t n = true) :
    Calls Try.prog 28 #[.int .i64 f, .int .i64 t, .int .i64 n, v] w (MatAns w (allM b (fun i => grownI f t n i)) 0) := by
  have h44 := refValidBlock_any b v w hM
  rw [hv] at h44
  have hro := rampOk_of hr
  have H75 : Hid (∀ x, Calls Try.prog 75 #[.int .i64 f] x fun e w' => e = .returned (.bool true) ∧ x = w') := Lib.hid fun x => by
    unfold rampB at hr
    rw [Bool.and_eq_true, Bool.and_eq_true] at hr
    have := gain_any f x
    rwa [hr.1.1] at this
  have H75t : Hid (∀ x, Calls Try.prog 75 #[.int .i64 t] x fun e w' => e = .returned (.bool true) ∧ x = w') := Lib.hid fun x => by
    unfold rampB at hr
    rw [Bool.and_eq_true, Bool.and_eq_true] at hr
    have := gain_any t x
    rwa [hr.1.2] at this
  obtain ⟨pb1, pb2, pb3, hrow⟩ := validB_parts hv
  have hcab := cell_abs hv
  have hn1 : ¬ n < 0 := by have := hro.hn; omega
  have hn2 : ¬ 1000000000 < n := by have := hro.hn; omega
  obtain ⟨C, hC⟩ : ∃ C, cols b = C := ⟨_, rfl⟩
  rw [hC] at pb3 hrow
  have htab := allM_tab (G := fun i => grownI f t n i) hrow
  obtain ⟨V, hV⟩ : ∃ V : Nat → Nat → Int, V = fun j i => times (cellM b j i) (grownI f t n i) := ⟨_, rfl⟩
  rw [← hV] at htab
  rw [htab]
  have H47 := Lib.hid (fun (x : World) => nothing_gn b.length C pb1 pb2 pb3 x)
  have HFIN : Hid (∀ (g cap N : Nat) (gs : Nat → Nat) (W : World), b.length ≤ cap → Gn N g gs b.length C (rdF V b.length 0) W → MatIn W (tabM b.length C V) (.slice (some ⟨g, 0, none⟩) b.length cap)) := Lib.hid fun g cap N gs W hcap hg =>
    (hg.congr (G := V) fun j x hj _ => by unfold rdF; rw [if_pos (Or.inl hj)]).mat pb2 pb3 hcap fun j x _ _ => by rw [hV]; have := times_bd (cellM b j x) (grownI f t n x); unfold I64; dsimp only; omega
  have H84 : Hid (∀ (k : Nat) (x : World), k < 4096 → Calls Try.prog 84 #[.int .i64 f, .int .i64 t, .int .i64 n, .int .i64 k] x fun e w' => e = .returned (.int .i64 (grownI f t n k)) ∧ ∃ m, w' = x.drewN m) := Lib.hid fun k x hk => grown_any f t n k hro.hf hro.ht hro.hn (by omega) x
  have H72 : Hid (∀ (j k : Nat) (x : World), Calls Try.prog 72 #[.int .i64 (cellM b j k), .int .i64 (grownI f t n k)] x fun e w' => e = .returned (.int .i64 (V j k)) ∧ ∃ m, w' = x.drewN m) := Lib.hid fun j k x => by
    rw [hV]
    refine times_any _ _ (hcab j k) ?_ x
    by_cases hz : n ≤ (k : Int)
    · have := hro.ht
      unfold grownI; rw [if_pos hz]; exact this
    · exact grownI_gain ⟨hro.hf, hro.ht, hro.hn, by omega⟩
  obtain ⟨a, ca, rfl, hin, _, _⟩ := id hM
  have HIB := Lib.hid (fun (x : World) (hx : Below w.heap.size w x) => hin.mono (Same.of_below hx))
  obtain ⟨bb, ob, u, rfl, hcu, hu⟩ := hin 0 (by omega)
  obtain ⟨au, cu, rfl, _, _, _⟩ := hu
  change w.cell? _ = some (Value.slice au (cols b) cu) at hcu
  simp only [Nat.add_zero, hC] at hcu
  have HCU := Lib.hid (fun (x : World) (hx : Below w.heap.size w x) => (Same.of_below hx).cell hcu)
  have HROW := Lib.hid hrow
  have hposI : (0 : Int) < (b.length : Int) := by omega
  have hposN : 0 < b.length := by omega
  clear hM hv hr hin hcab hrow hC hV htab hcu hro
  go_enter Try.func28, Try.ntmps28
  go_wp2_with (first
    | (go_at_call 44; (with_reducible refine h44.mono ?_); rintro e w1 ⟨rfl, b1⟩; have B1 := Lib.hid b1; have hcu1 := HCU.out _ b1; clear b1)
    | (go_at_call 75; (with_reducible refine (H75.out _).mono ?_); rintro e w2 ⟨rfl, rfl⟩)
    | (go_at_call 75; (with_reducible refine (H75t.out _).mono ?_); rintro e w2 ⟨rfl, rfl⟩)
    | (go_at_call 47; (with_reducible refine (H47.out _).mono ?_); rintro e w3 ⟨g, cap, gs, rfl, hcap, hgn, hb3⟩; have HG := Lib.hid hgn; have HB := Lib.hid (Below.then B1.out (Nat.le_refl _) hb3); have HL := Lib.hid B1.out.size; clear hgn hb3))
  obtain ⟨N, hN⟩ : ∃ N, w1.heap.size = N := ⟨_, rfl⟩
  rw [hN] at HG HL
  clear hcu1 h44 hN
  go_loopw [11] (fun p wr => ∃ c : Nat, p = .int .i64 c ∧ c ≤ b.length ∧ Gn N g gs b.length C (rdF V c 0) wr ∧ Below w.heap.size w wr) (fun p _ => b.length - (intOf p).toNat)
  case atStart => exact ⟨0, rfl, Nat.zero_le _, HG.out.congr fun j x _ _ => by simp [rdF], HB.out⟩
  case round =>
    clear HG HB
    obtain ⟨c, rfl, hc, hgn, hbl⟩ := hrel
    by_cases hlt : c < b.length
    · have wc : (c : Int) < (b.length : Int) := by omega
      go_wp2_with fail
      obtain ⟨wo, rfl⟩ : ∃ wo : World, wo = wr := ⟨_, rfl⟩
      go_loopw [12] (fun p wr => ∃ k : Nat, p = .int .i64 k ∧ k ≤ C ∧ Gn N g gs b.length C (rdF V c k) wr ∧ Below w.heap.size w wr) (fun p _ => C - (intOf p).toNat)
      case atStart => exact ⟨0, rfl, Nat.zero_le _, hgn, hbl⟩
      case round =>
        clear hgn hbl
        obtain ⟨k, rfl, hk, hgn, hbl⟩ := hrel
        obtain ⟨_, _, u1, e1, hc1, hu1⟩ := HIB.out wr hbl c hlt
        simp only [Option.some.injEq, Addr.mk.injEq, and_true] at e1
        obtain ⟨rfl, rfl⟩ := e1
        have hl1 := HROW.out c hlt
        by_cases hltk : k < C
        · have wk : (k : Int) < (C : Int) := by omega
          have h84 := H84.out k
          have h72 := H72.out c k
          unfold cellM at h72
          obtain ⟨p, hp⟩ : ∃ p, b.getD c [] = p := ⟨_, rfl⟩
          rw [hp] at hu1 hl1 h72
          obtain ⟨ap, cp, rfl, hpin, _, _⟩ := hu1
          obtain ⟨bp, op, rfl, hcp, _⟩ := hpin k (by omega)
          rw [hl1] at hc1
          obtain ⟨s, hs⟩ : ∃ s, p.getD k 0 = s := ⟨_, rfl⟩
          rw [hs] at hcp h72
          have hct := hgn.top c hlt
          have hlo := hgn.lo c hlt
          have HAP := Lib.hid (fun (x : World) (hx : Gn N g gs b.length C (rdF V c k) x) => And.intro ((hx.rows c hlt).cell hltk) (And.intro ((hx.rows c hlt).frozen k) (hx.rd hlt)))
          obtain ⟨vv, hvv⟩ : ∃ vv, V c k = vv := ⟨_, rfl⟩
          rw [hvv] at HAP h72
          obtain ⟨gk, hgk⟩ : ∃ gk, grownI f t n k = gk := ⟨_, rfl⟩
          rw [hgk] at h84 h72
          have H84' := Lib.hid (fun x => h84 x (by omega))
          have H72' := Lib.hid h72
          have hS0 : ((wr.drew.cell? ⟨g, c, none⟩ = some (.slice (some ⟨gs c, 0, none⟩) C C) ∧ wr.drew.cell? ⟨bb, ob + c, none⟩ = some (.slice (some ⟨bp, op, none⟩) C cp)) ∧ wr.drew.cell? ⟨bp, op + k, none⟩ = some (.int .i64 s)) ∧ (Gn N g gs b.length C (rdF V c k) wr.drew ∧ Below w.heap.size w wr.drew) := ⟨⟨⟨hct, hc1⟩, hcp⟩, hgn.drew, hbl.drew⟩
          clear h84 h72 hs hp hgk hvv hbl hgn hct hpin hl1
          go_wp2_with fail
          clear hc1 hcp
          refine region_T (S := fun wx => ((wx.cell? ⟨g, c, none⟩ = some (.slice (some ⟨gs c, 0, none⟩) C C) ∧ wx.cell? ⟨bb, ob + c, none⟩ = some (.slice (some ⟨bp, op, none⟩) C cp)) ∧ wx.cell? ⟨bp, op + k, none⟩ = some (.int .i64 s)) ∧ (Gn N g gs b.length C (rdF V c k) wx ∧ Below w.heap.size w wx)) [19] (by kernel_rfl) hS0 (fun _ => ?_)
          obtain ⟨W2, hW2⟩ : ∃ W2, wr.drew = W2 := ⟨_, rfl⟩
          rw [hW2] at hS0 ⊢
          clear hW2
          refine anyT_take (i := 0) (v := ?_) rfl (by kernel_rfl) (by kernel_rfl) (by kernel_rfl) (by kernel_rfl) (fun _ _ _ h => h) (Or.inl ⟨by rfl, ?_⟩) hS0 ?_
          rotate_left
          focus ((intro wq hSw; obtain ⟨⟨⟨q0, q1⟩, q2⟩, _⟩ := hSw; go_simp); try with_reducible rfl)
          try simp only [Act.put, List.getElem_toArray, List.getElem_cons_succ, List.getElem_cons_zero, List.setIfInBounds_toArray, List.set_cons_zero, List.set_cons_succ]
          refine anyT_take (i := 1) (v := ?_) rfl (by kernel_rfl) (by kernel_rfl) (by kernel_rfl) (by kernel_rfl) (fun _ _ _ h => h) (Or.inl ⟨by rfl, ?_⟩) hS0 ?_
          rotate_left
          focus ((intro wq hSw; obtain ⟨⟨⟨q0, q1⟩, q2⟩, _⟩ := hSw; go_simp); try with_reducible rfl)
          try simp only [Act.put, List.getElem_toArray, List.getElem_cons_succ, List.getElem_cons_zero, List.setIfInBounds_toArray, List.set_cons_zero, List.set_cons_succ]
          refine anyT_take (i := 2) (v := ?_) rfl (by kernel_rfl) (by kernel_rfl) (by kernel_rfl) (by kernel_rfl) (fun _ _ _ h => h) (Or.inl ⟨by rfl, ?_⟩) hS0 ?_
          rotate_left
          focus ((intro wq hSw; obtain ⟨⟨⟨q0, q1⟩, q2⟩, _⟩ := hSw; go_simp); try with_reducible rfl)
          try simp only [Act.put, List.getElem_toArray, List.getElem_cons_succ, List.getElem_cons_zero, List.setIfInBounds_toArray, List.set_cons_zero, List.set_cons_succ]
          refine anyT_take (i := 3) (v := ?_) rfl (by kernel_rfl) (by kernel_rfl) (by kernel_rfl) (by kernel_rfl) (fun _ _ _ h => h) (Or.inl ⟨by rfl, ?_⟩) hS0 ?_
          rotate_left
          focus ((intro wq hSw; obtain ⟨⟨⟨q0, q1⟩, q2⟩, _⟩ := hSw; go_simp); try with_reducible rfl)
          try simp only [Act.put, List.getElem_toArray, List.getElem_cons_succ, List.getElem_cons_zero, List.setIfInBounds_toArray, List.set_cons_zero, List.set_cons_succ]
          refine anyT_take (i := 4) (v := ?_) rfl (by kernel_rfl) (by kernel_rfl) (by kernel_rfl) (by kernel_rfl) (fun _ _ _ h => h) (Or.inl ⟨by rfl, ?_⟩) hS0 ?_
          rotate_left
          focus ((intro wq hSw; obtain ⟨⟨⟨q0, q1⟩, q2⟩, _⟩ := hSw; go_simp); try with_reducible rfl)
          try simp only [Act.put, List.getElem_toArray, List.getElem_cons_succ, List.getElem_cons_zero, List.setIfInBounds_toArray, List.set_cons_zero, List.set_cons_succ]
          refine anyT_take (i := 5) (v := ?_) rfl (by kernel_rfl) (by kernel_rfl) (by kernel_rfl) (by kernel_rfl) (fun _ _ _ h => h) (Or.inl ⟨by rfl, ?_⟩) hS0 ?_
          rotate_left
          focus ((intro wq hSw; obtain ⟨⟨⟨q0, q1⟩, q2⟩, _⟩ := hSw; go_simp); try with_reducible rfl)
          try simp only [Act.put, List.getElem_toArray, List.getElem_cons_succ, List.getElem_cons_zero, List.setIfInBounds_toArray, List.set_cons_zero, List.set_cons_succ]
          refine anyT_take (i := 6) (v := ?_) rfl (by kernel_rfl) (by kernel_rfl) (by kernel_rfl) (by kernel_rfl) (fun _ _ _ h => h) (Or.inl ⟨by rfl, ?_⟩) hS0 ?_
          rotate_left
          focus ((intro wq hSw; obtain ⟨⟨⟨q0, q1⟩, q2⟩, _⟩ := hSw; go_simp); try with_reducible rfl)
          try simp only [Act.put, List.getElem_toArray, List.getElem_cons_succ, List.getElem_cons_zero, List.setIfInBounds_toArray, List.set_cons_zero, List.set_cons_succ]
          refine anyT_take (i := 7) (v := ?_) rfl (by kernel_rfl) (by kernel_rfl) (by kernel_rfl) (by kernel_rfl) (fun _ _ _ h => h) (Or.inl ⟨by rfl, ?_⟩) hS0 ?_
          rotate_left
          focus ((intro wq hSw; obtain ⟨⟨⟨q0, q1⟩, q2⟩, _⟩ := hSw; go_simp); try with_reducible rfl)
          try simp only [Act.put, List.getElem_toArray, List.getElem_cons_succ, List.getElem_cons_zero, List.setIfInBounds_toArray, List.set_cons_zero, List.set_cons_succ]
          refine anyT_take (i := 8) (v := ?_) rfl (by kernel_rfl) (by kernel_rfl) (by kernel_rfl) (by kernel_rfl) (fun _ _ _ h => h) (Or.inl ⟨by rfl, ?_⟩) hS0 ?_
          rotate_left
          focus ((intro wq hSw; obtain ⟨⟨⟨q0, q1⟩, q2⟩, _⟩ := hSw; go_simp); try with_reducible rfl)
          try simp only [Act.put, List.getElem_toArray, List.getElem_cons_succ, List.getElem_cons_zero, List.setIfInBounds_toArray, List.set_cons_zero, List.set_cons_succ]
          refine anyT_take (i := 9) (v := ?_) rfl (by kernel_rfl) (by kernel_rfl) (by kernel_rfl) (by kernel_rfl) (fun _ _ _ h => h) (Or.inl ⟨by rfl, ?_⟩) hS0 ?_
          rotate_left
          focus ((intro wq hSw; obtain ⟨⟨⟨q0, q1⟩, q2⟩, _⟩ := hSw; go_simp); try with_reducible rfl)
          try simp only [Act.put, List.getElem_toArray, List.getElem_cons_succ, List.getElem_cons_zero, List.setIfInBounds_toArray, List.set_cons_zero, List.set_cons_succ]
          refine anyT_take (i := 10) (v := ?_) rfl (by kernel_rfl) (by kernel_rfl) (by kernel_rfl) (by kernel_rfl) (fun _ _ _ h => h) (Or.inl ⟨by rfl, ?_⟩) hS0 ?_
          rotate_left
          focus ((intro wq hSw; obtain ⟨⟨⟨q0, q1⟩, q2⟩, _⟩ := hSw; go_simp); try with_reducible rfl)
          try simp only [Act.put, List.getElem_toArray, List.getElem_cons_succ, List.getElem_cons_zero, List.setIfInBounds_toArray, List.set_cons_zero, List.set_cons_succ]
          refine anyT_take (i := 11) (v := ?_) rfl (by kernel_rfl) (by kernel_rfl) (by kernel_rfl) (by kernel_rfl) (fun _ _ _ h => h) (Or.inl ⟨by rfl, ?_⟩) hS0 ?_
          rotate_left
          focus ((intro wq hSw; obtain ⟨⟨⟨q0, q1⟩, q2⟩, _⟩ := hSw; go_simp); try with_reducible rfl)
          try simp only [Act.put, List.getElem_toArray, List.getElem_cons_succ, List.getElem_cons_zero, List.setIfInBounds_toArray, List.set_cons_zero, List.set_cons_succ]
          refine anyT_take (i := 12) (v := ?_) rfl (by kernel_rfl) (by kernel_rfl) (by kernel_rfl) (by kernel_rfl) (fun _ _ _ h => h) (Or.inl ⟨by rfl, ?_⟩) hS0 ?_
          rotate_left
          focus ((intro wq hSw; obtain ⟨⟨⟨q0, q1⟩, q2⟩, _⟩ := hSw; go_simp); try with_reducible rfl)
          try simp only [Act.put, List.getElem_toArray, List.getElem_cons_succ, List.getElem_cons_zero, List.setIfInBounds_toArray, List.set_cons_zero, List.set_cons_succ]
          refine anyT_take (i := 13) (v := ?_) rfl (by kernel_rfl) (by kernel_rfl) (by kernel_rfl) (by kernel_rfl) (fun _ _ _ h => h) (Or.inl ⟨by rfl, ?_⟩) hS0 ?_
          rotate_left
          focus ((intro wq hSw; obtain ⟨⟨⟨q0, q1⟩, q2⟩, _⟩ := hSw; go_simp); try with_reducible rfl)
          try simp only [Act.put, List.getElem_toArray, List.getElem_cons_succ, List.getElem_cons_zero, List.setIfInBounds_toArray, List.set_cons_zero, List.set_cons_succ]
          refine anyT_take (i := 14) (v := ?_) rfl (by kernel_rfl) (by kernel_rfl) (by kernel_rfl) (by kernel_rfl) (fun _ _ _ h => h) (Or.inl ⟨by rfl, ?_⟩) hS0 ?_
          rotate_left
          focus ((intro wq hSw; obtain ⟨⟨⟨q0, q1⟩, q2⟩, _⟩ := hSw; go_simp); try with_reducible rfl)
          try simp only [Act.put, List.getElem_toArray, List.getElem_cons_succ, List.getElem_cons_zero, List.setIfInBounds_toArray, List.set_cons_zero, List.set_cons_succ]
          refine anyT_take (i := 15) (v := ?_) rfl (by kernel_rfl) (by kernel_rfl) (by kernel_rfl) (by kernel_rfl) (fun _ _ _ h => h) (Or.inl ⟨by rfl, ?_⟩) hS0 ?_
          rotate_left
          focus ((intro wq hSw; obtain ⟨⟨⟨q0, q1⟩, q2⟩, _⟩ := hSw; go_simp); try with_reducible rfl)
          try simp only [Act.put, List.getElem_toArray, List.getElem_cons_succ, List.getElem_cons_zero, List.setIfInBounds_toArray, List.set_cons_zero, List.set_cons_succ]
          refine anyT_one (i := 16) (by kernel_rfl) rfl (fun K hK => ?_)
          go_simp
          refine (H84'.out _).mono ?_
          rintro e w4 ⟨rfl, m4, rfl⟩
          have hS1 : ((((W2.drewN m4).cell? ⟨g, c, none⟩ = some (.slice (some ⟨gs c, 0, none⟩) C C) ∧ (W2.drewN m4).cell? ⟨bb, ob + c, none⟩ = some (.slice (some ⟨bp, op, none⟩) C cp)) ∧ (W2.drewN m4).cell? ⟨bp, op + k, none⟩ = some (.int .i64 s)) ∧ (Gn N g gs b.length C (rdF V c k) (W2.drewN m4) ∧ Below w.heap.size w (W2.drewN m4))) := ⟨hS0.1, hS0.2.1.drewN m4, below_drewN hS0.2.2 m4⟩
          refine hK.out _ _ (fun _ => hS1) ?_
          clear hK K hS0
          obtain ⟨W3, hW3⟩ : ∃ W3, W2.drewN m4 = W3 := ⟨_, rfl⟩
          rw [hW3] at hS1 ⊢
          clear hW3
          try simp only [Act.put, List.getElem_toArray, List.getElem_cons_succ, List.getElem_cons_zero, List.setIfInBounds_toArray, List.set_cons_zero, List.set_cons_succ]
          refine anyT_one (i := 17) (by kernel_rfl) rfl (fun K hK => ?_)
          go_simp
          refine (H72'.out _).mono ?_
          rintro e w5 ⟨rfl, m5, rfl⟩
          have hS2 : ((((W3.drewN m5).cell? ⟨g, c, none⟩ = some (.slice (some ⟨gs c, 0, none⟩) C C) ∧ (W3.drewN m5).cell? ⟨bb, ob + c, none⟩ = some (.slice (some ⟨bp, op, none⟩) C cp)) ∧ (W3.drewN m5).cell? ⟨bp, op + k, none⟩ = some (.int .i64 s)) ∧ (Gn N g gs b.length C (rdF V c k) (W3.drewN m5) ∧ Below w.heap.size w (W3.drewN m5))) := ⟨hS1.1, hS1.2.1.drewN m5, below_drewN hS1.2.2 m5⟩
          refine hK.out _ _ (fun _ => hS2) ?_
          clear hK K hS1
          obtain ⟨W4, hW4⟩ : ∃ W4, W3.drewN m5 = W4 := ⟨_, rfl⟩
          rw [hW4] at hS2 ⊢
          clear hW4
          try simp only [Act.put, List.getElem_toArray, List.getElem_cons_succ, List.getElem_cons_zero, List.setIfInBounds_toArray, List.set_cons_zero, List.set_cons_succ]
          refine anyT_take (i := 18) (v := ?_) rfl (by kernel_rfl) (by kernel_rfl) (by kernel_rfl) (by kernel_rfl) (fun _ _ _ h => h) (Or.inl ⟨by rfl, ?_⟩) hS2 ?_
          rotate_left
          focus ((intro wq hSw; obtain ⟨⟨⟨q0, q1⟩, q2⟩, _⟩ := hSw; go_simp); try with_reducible rfl)
          try simp only [Act.put, List.getElem_toArray, List.getElem_cons_succ, List.getElem_cons_zero, List.setIfInBounds_toArray, List.set_cons_zero, List.set_cons_succ]
          refine anyT_one (i := 19) (by kernel_rfl) rfl (fun K hK => ?_)
          obtain ⟨f1, f2, hst⟩ := HAP.out _ hS2.2.1
          have HST := Lib.hid hst
          have HBL := Lib.hid hS2.2.2
          clear hst hS2
          go_simp
          refine hK.out _ _ (fun h => by cases h) ?_
          clear hK K
          refine anyT_done (by kernel_rfl) ?_ _
          go_wp2_with fail
          go_roundw
          case rel => exact ⟨k + 1, by go_num, by omega, HST.out, HBL.out.setCell (Nat.le_trans HL.out hlo) _⟩
          case measure => simp [intOf]; omega
        · have wk : ¬ (k : Int) < (C : Int) := by omega
          obtain rfl : k = C := by omega
          obtain ⟨p, hp⟩ : ∃ p, b.getD c [] = p := ⟨_, rfl⟩
          rw [hp] at hu1 hl1
          obtain ⟨ap, cp, rfl, _, _, _⟩ := hu1
          rw [hl1] at hc1
          have HGN := Lib.hid hgn
          have HBL := Lib.hid hbl
          clear hgn hbl hp hl1
          go_wp2_with fail
          go_roundw
          case rel => exact ⟨c + 1, by go_num, by omega, HGN.out.congr (fun j x _ hx => by
            unfold rdF
            by_cases e : j < c ∨ (j = c ∧ x < k)
            · rw [if_pos e, if_pos (by omega)]
            · rw [if_neg e, if_neg (by omega)]), HBL.out⟩
          case measure => simp [intOf]; omega
    · have wc : ¬ (c : Int) < (b.length : Int) := by omega
      obtain rfl : c = b.length := by omega
      have hm := HFIN.out _ cap _ _ _ hcap hgn
      have HM := Lib.hid hm
      have HBL := Lib.hid hbl
      clear hm hgn hbl
      go_wp2_with fail
      go_ret2
      exact ⟨_, rfl, HM.out, HBL.out⟩
end Go.Proofs.Ythfagnbecocgdaa
