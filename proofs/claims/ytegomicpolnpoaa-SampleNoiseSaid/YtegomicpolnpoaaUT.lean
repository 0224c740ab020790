/- The program's Decode. -/
import Derived.Test.YtegomicpolnpoaaUR
namespace Go.Proofs.Ytegomicpolnpoaa
open Go.RowKit Go.Deep Go.Shelf
attribute [local go_sem] Oper.semAt_some

/-- The sample in a string at a spot. -/
def decV (e : Nat) (p : Bool) (r c : Nat) (s : ByteArray) (x : Nat × Nat) : Int := smp (bitsN e) (bnd (getN e (s.extract (placeOf p r c x * wid e) s.size)) (topN (bitsN e)))

theorem _root_.Go.Proofs.Ytegomicpolnpoaa.Gr.drew' {N r c : Nat} {F : Nat → Nat → Int} {W : World} (h : Gr N r c F W) : Gr N r c F W.drew := ⟨h.top, h.rows⟩
theorem signI_bd {n k : Nat} (h : n < 2 ^ (8 * k)) (hk1 : 1 ≤ k) (hk : k ≤ 4) : -2147483648 ≤ signI n (8 * k) ∧ signI n (8 * k) ≤ 2147483647 := by
  have hkk : k = 1 ∨ k = 2 ∨ k = 3 ∨ k = 4 := by omega
  unfold signI
  rcases hkk with rfl | rfl | rfl | rfl
  all_goals
    simp only [Nat.reduceMul, Nat.reduceSub, Nat.reducePow, Int.reducePow] at h ⊢
    split <;> omega
theorem getN_bd {e : Nat} (h1 : 1 ≤ e) (h8 : e ≤ 8) (s : ByteArray) : -2147483648 ≤ getN e s ∧ getN e s ≤ 2147483647 := by
  unfold getN
  have hw : 1 ≤ wid e ∧ wid e ≤ 4 := by unfold wid; omega
  split
  · have := bytN_lt s 0; omega
  · split
    · exact signI_bd (highN_lt s _) hw.1 hw.2
    · exact signI_bd (lowN_lt s _) hw.1 hw.2

set_option maxHeartbeats 4000000 in
set_option maxRecDepth 100000 in
theorem decode1_yes {e : Nat} (h1 : 1 ≤ e) (h8 : e ≤ 8) (p : Bool) (r c : Nat) (hr1 : 1 ≤ r) (hr8 : r ≤ 8) (hc4 : c ≤ 4096) (s : ByteArray) (hs : s.size = r * c * wid e) (Be Bc Bs Bp : Nat) (w : World)
    (ke : w.cell? ⟨Be, 0, none⟩ = some (.int .i64 e)) (kc : w.cell? ⟨Bc, 0, none⟩ = some (.int .i64 r)) (ks : w.cell? ⟨Bs, 0, none⟩ = some (.string s)) (kp : w.cell? ⟨Bp, 0, none⟩ = some (.bool p)) :
    Calls Try.prog 78 #[at0 Be, at0 Bc, at0 Bs, at0 Bp] w fun y w' => ∃ N, w.heap.size ≤ N ∧ y = .returned (.slice (some ⟨N, 0, none⟩) r r) ∧ Gr N r c (fun i j => decV e p r c s (i, j)) w' ∧ Below w.heap.size w w' := by
  have hwd : wid e ≤ 4 ∧ 1 ≤ wid e := by unfold wid; omega
  have hgt := isGet h1 h8
  have hcd := isCd h1 h8
  have h51 := coder_any h1 h8
  have h64 : ∀ X, Calls Try.prog 64 #[cdv e] X fun y w' => y = .returned (.int .i64 (wid e : Nat)) ∧ Below X.heap.size X w' := fun X => width_any h1 h8 X
  have h79 := fun X => gridIn_yes r c (wid e) hr1 hr8 hc4 hwd.2 hwd.1 s hs X
  have h62 := fun X => ch_any r X
  simp only [show encB (r : Int) = true by simp [encB]; omega] at h62
  have h53 := fun X => must_yes 7 X
  have h59 := fun l hl1 hl2 X => sampleOf_any h1 h8 l X hl1 hl2
  have h58 := top_any h1 h8
  unfold cdv at h51 h64 h59
  generalize cdT e = T at *
  generalize cdX e = x at *
  have HGT := Lib.hid hgt
  have HCD := Lib.hid hcd
  have H51 := Lib.hid h51
  have H64 := Lib.hid h64
  have H79 := Lib.hid h79
  have H62 := Lib.hid h62
  have H53 := Lib.hid h53
  have H59 := Lib.hid h59
  have H58 := Lib.hid h58
  have HS := Lib.hid hs
  clear hgt hcd h51 h64 h79 h62 h53 h59 h58 hs
  refine (callsIn_wide (n := 12)).1 (callsIn_of_wp_marks Try.func78 rfl trivial ?_ rfl)
  simp only [Try.ntmps78, List.size_toArray, List.length_cons, List.length_nil, Nat.reduceAdd, Nat.reduceSub, Array.replicate_succ, Array.replicate_zero, List.push_toArray, List.append_toArray, List.nil_append, List.cons_append]
  have hmx : Try.prog.follows .mixedOrders = true := by kernel_rfl
  have kc' : ∀ Z, (w.alloc Z).cell? ⟨Bc, 0, none⟩ = some (.int .i64 r) := fun Z => (Same.alloc _ Z).cell kc
  gi_wp2
  refine ⟨trivial, (callsIn_wide.2 (H51.out _)).mono ?_⟩
  rintro y w1 ⟨rfl, rfl⟩
  gi_wp2
  refine ⟨trivial, (callsIn_wide.2 (H62.out _)).mono ?_⟩
  rintro y w1 ⟨rfl, rfl⟩
  gi_wp2
  refine ⟨trivial, (callsIn_wide.2 (H53.out _)).mono ?_⟩
  rintro y w1 ⟨rfl, rfl⟩
  gi_wp2
  have ks0 : (w.alloc (.cells #[.iface T x] 70)).cell? ⟨Bs, 0, none⟩ = some (.string s) := (Same.alloc _ _).cell ks
  have kc0 : (w.alloc (.cells #[.iface T x] 70)).cell? ⟨Bc, 0, none⟩ = some (.int .i64 r) := (Same.alloc _ _).cell kc
  have kp0 : (w.alloc (.cells #[.iface T x] 70)).cell? ⟨Bp, 0, none⟩ = some (.bool p) := (Same.alloc _ _).cell kp
  have k5 : (w.alloc (.cells #[.iface T x] 70)).cell? ⟨w.heap.size, 0, none⟩ = some (.iface T x) := by simp [go_sem]
  have hb0 : Below w.heap.size w (w.alloc (.cells #[.iface T x] 70)) := (Below.refl _ w).alloc (Nat.le_refl _) _
  have hsz0 : (w.alloc (.cells #[.iface T x] 70)).heap.size = w.heap.size + 1 := by simp
  have lts := cell_lt ks
  have ltc := cell_lt kc
  have ltp := cell_lt kp
  simp only at lts ltc ltp
  clear ke kc ks kp kc'
  have kc := kc0
  have ks := ks0
  have kp := kp0
  clear kc0 ks0 kp0
  generalize (w.alloc (.cells #[.iface T x] 70)) = W0 at *
  refine region_inv (fun L a X => ∃ s6 s7 s17 s18 s19 s20 s21 s22 s23, a = { tmps := #[at0 Be, at0 Bc, at0 Bs, at0 Bp, .slice none 0 0, at0 w.heap.size, s6, s7, undef, undef, undef, undef, .int .i64 e, .iface T x, .int .i64 r, .bool true, .tuple #[], s17, s18, s19, s20, s21, s22, s23, undef, undef, undef, undef, undef, undef, undef, undef, undef, undef, undef, undef, undef, undef, undef, undef, undef, undef, undef, undef, undef, undef, undef, undef, undef, undef, undef, undef, undef, undef, undef, undef, undef, undef, undef, undef, undef, undef, undef, undef], defers := [] } ∧ Below W0.heap.size W0 X ∧ (L.getD 0 false = true → s17 = .string s) ∧ (L.getD 1 false = true → s18 = .int .i64 r) ∧ (L.getD 2 false = true → s19 = .iface T x) ∧ (L.getD 3 false = true → s20 = .int .i64 (wid e : Nat)) ∧ (L.getD 4 false = true → s21 = .agg #[.int .i64 r, .int .i64 c]) ∧ (L.getD 5 false = true → s22 = .iface T x) ∧ (L.getD 6 false = true → s23 = .int .i64 (wid e : Nat)) ∧ (L.getD 7 false = true → Slot W0.heap.size X 87 2 s6 fun F => L.getD 9 false = true → F 0 = .int .i64 r ∧ F 1 = .int .i64 c) ∧ (L.getD 8 false = true → Slot W0.heap.size X 3 1 s7 fun F => L.getD 10 false = true → F 0 = .int .i64 (wid e : Nat))) hmx (by kernel_rfl) ?_ ?_ ?_
  · exact ⟨undef, undef, undef, undef, undef, undef, undef, undef, undef, rfl, (Below.refl _ _).drew, fun h => (by cases h), fun h => (by cases h), fun h => (by cases h), fun h => (by cases h), fun h => (by cases h), fun h => (by cases h), fun h => (by cases h), fun h => (by cases h), fun h => (by cases h)⟩
  · rintro L a X i o hL hcl hnl ⟨s6, s7, s17, s18, s19, s20, s21, s22, s23, rfl, hbX, q0, q1, q2, q3, q4, q5, q6, q7, q8⟩ ho hall
    have hi : i < 11 := (Array.getElem?_eq_some_iff.1 ho).1
    obtain rfl | rfl | rfl | rfl | rfl | rfl | rfl | rfl | rfl | rfl | rfl : i = 0 ∨ i = 1 ∨ i = 2 ∨ i = 3 ∨ i = 4 ∨ i = 5 ∨ i = 6 ∨ i = 7 ∨ i = 8 ∨ i = 9 ∨ i = 10 := by omega
    all_goals (have ho := Option.some.inj ho; subst ho)
    · have hcc : X.cell? ⟨Bs, 0, none⟩ = some (.string s) := (hbX.cell (p := ⟨Bs, 0, none⟩) (by simp; omega)).trans ks
      refine wpOpIn_step rfl (fun K hK => ?_)
      dsimp only
      go_simp
      refine hK _ _ ⟨s6, s7, _, s18, s19, s20, s21, s22, s23, rfl, hbX, fun _ => rfl, fun h => q1 (was_listed h (by decide)), fun h => q2 (was_listed h (by decide)), fun h => q3 (was_listed h (by decide)), fun h => q4 (was_listed h (by decide)), fun h => q5 (was_listed h (by decide)), fun h => q6 (was_listed h (by decide)), fun h => (q7 (was_listed h (by decide))).mono (fun _ _ _ h => h) (fun _ hF h6 => hF (was_listed h6 (by decide))), fun h => (q8 (was_listed h (by decide))).mono (fun _ _ _ h => h) (fun _ hF h6 => hF (was_listed h6 (by decide)))⟩
    · have hcc : X.cell? ⟨Bc, 0, none⟩ = some (.int .i64 r) := (hbX.cell (p := ⟨Bc, 0, none⟩) (by simp; omega)).trans kc
      refine wpOpIn_step rfl (fun K hK => ?_)
      dsimp only
      go_simp
      refine hK _ _ ⟨s6, s7, s17, _, s19, s20, s21, s22, s23, rfl, hbX, fun h => q0 (was_listed h (by decide)), fun _ => rfl, fun h => q2 (was_listed h (by decide)), fun h => q3 (was_listed h (by decide)), fun h => q4 (was_listed h (by decide)), fun h => q5 (was_listed h (by decide)), fun h => q6 (was_listed h (by decide)), fun h => (q7 (was_listed h (by decide))).mono (fun _ _ _ h => h) (fun _ hF h6 => hF (was_listed h6 (by decide))), fun h => (q8 (was_listed h (by decide))).mono (fun _ _ _ h => h) (fun _ hF h6 => hF (was_listed h6 (by decide)))⟩
    · have hcc : X.cell? ⟨w.heap.size, 0, none⟩ = some (.iface T x) := (hbX.cell (p := ⟨w.heap.size, 0, none⟩) (by simp; omega)).trans k5
      refine wpOpIn_step rfl (fun K hK => ?_)
      dsimp only
      go_simp
      refine hK _ _ ⟨s6, s7, s17, s18, _, s20, s21, s22, s23, rfl, hbX, fun h => q0 (was_listed h (by decide)), fun h => q1 (was_listed h (by decide)), fun _ => rfl, fun h => q3 (was_listed h (by decide)), fun h => q4 (was_listed h (by decide)), fun h => q5 (was_listed h (by decide)), fun h => q6 (was_listed h (by decide)), fun h => (q7 (was_listed h (by decide))).mono (fun _ _ _ h => h) (fun _ hF h6 => hF (was_listed h6 (by decide))), fun h => (q8 (was_listed h (by decide))).mono (fun _ _ _ h => h) (fun _ hF h6 => hF (was_listed h6 (by decide)))⟩
    · obtain rfl := q2 (hall { on := 2, ground := .data } (by simp) rfl)
      refine wpOpIn_step rfl (fun K hK => ?_)
      dsimp only
      go_simp
      refine ⟨trivial, (callsIn_wide.2 (H64.out X)).mono ?_⟩
      rintro y X' ⟨rfl, hb⟩
      refine hK _ _ ⟨s6, s7, s17, s18, _, _, s21, s22, s23, rfl, hbX.trans (hb.mono hbX.size), fun h => q0 (was_listed h (by decide)), fun h => q1 (was_listed h (by decide)), fun h => q2 (was_listed h (by decide)), fun _ => rfl, fun h => q4 (was_listed h (by decide)), fun h => q5 (was_listed h (by decide)), fun h => q6 (was_listed h (by decide)), fun h => (q7 (was_listed h (by decide))).mono (fun _ _ _ h => rowIs_below h hb) (fun _ hF h6 => hF (was_listed h6 (by decide))), fun h => (q8 (was_listed h (by decide))).mono (fun _ _ _ h => rowIs_below h hb) (fun _ hF h6 => hF (was_listed h6 (by decide)))⟩
    · obtain rfl := q0 (hall { on := 0, ground := .data } (by simp) rfl)
      obtain rfl := q1 (hall { on := 1, ground := .data } (by simp) rfl)
      obtain rfl := q3 (hall { on := 3, ground := .data } (by simp) rfl)
      refine wpOpIn_step rfl (fun K hK => ?_)
      dsimp only
      go_simp
      refine ⟨trivial, (callsIn_wide.2 (H79.out X)).mono ?_⟩
      rintro y X' ⟨rfl, hb⟩
      refine hK _ _ ⟨s6, s7, _, _, s19, _, _, s22, s23, rfl, hbX.trans (hb.mono hbX.size), fun h => q0 (was_listed h (by decide)), fun h => q1 (was_listed h (by decide)), fun h => q2 (was_listed h (by decide)), fun h => q3 (was_listed h (by decide)), fun _ => rfl, fun h => q5 (was_listed h (by decide)), fun h => q6 (was_listed h (by decide)), fun h => (q7 (was_listed h (by decide))).mono (fun _ _ _ h => rowIs_below h hb) (fun _ hF h6 => hF (was_listed h6 (by decide))), fun h => (q8 (was_listed h (by decide))).mono (fun _ _ _ h => rowIs_below h hb) (fun _ hF h6 => hF (was_listed h6 (by decide)))⟩
    · have hcc : X.cell? ⟨w.heap.size, 0, none⟩ = some (.iface T x) := (hbX.cell (p := ⟨w.heap.size, 0, none⟩) (by simp; omega)).trans k5
      refine wpOpIn_step rfl (fun K hK => ?_)
      dsimp only
      go_simp
      refine hK _ _ ⟨s6, s7, s17, s18, s19, s20, s21, _, s23, rfl, hbX, fun h => q0 (was_listed h (by decide)), fun h => q1 (was_listed h (by decide)), fun h => q2 (was_listed h (by decide)), fun h => q3 (was_listed h (by decide)), fun h => q4 (was_listed h (by decide)), fun _ => rfl, fun h => q6 (was_listed h (by decide)), fun h => (q7 (was_listed h (by decide))).mono (fun _ _ _ h => h) (fun _ hF h6 => hF (was_listed h6 (by decide))), fun h => (q8 (was_listed h (by decide))).mono (fun _ _ _ h => h) (fun _ hF h6 => hF (was_listed h6 (by decide)))⟩
    · obtain rfl := q5 (hall { on := 5, ground := .data } (by simp) rfl)
      refine wpOpIn_step rfl (fun K hK => ?_)
      dsimp only
      go_simp
      refine ⟨trivial, (callsIn_wide.2 (H64.out X)).mono ?_⟩
      rintro y X' ⟨rfl, hb⟩
      refine hK _ _ ⟨s6, s7, s17, s18, s19, s20, s21, _, _, rfl, hbX.trans (hb.mono hbX.size), fun h => q0 (was_listed h (by decide)), fun h => q1 (was_listed h (by decide)), fun h => q2 (was_listed h (by decide)), fun h => q3 (was_listed h (by decide)), fun h => q4 (was_listed h (by decide)), fun h => q5 (was_listed h (by decide)), fun _ => rfl, fun h => (q7 (was_listed h (by decide))).mono (fun _ _ _ h => rowIs_below h hb) (fun _ hF h6 => hF (was_listed h6 (by decide))), fun h => (q8 (was_listed h (by decide))).mono (fun _ _ _ h => rowIs_below h hb) (fun _ hF h6 => hF (was_listed h6 (by decide)))⟩
    · refine wpOpIn_step rfl (fun K hK => ?_)
      dsimp only
      go_simp
      refine hK _ _ ⟨_, s7, s17, s18, s19, s20, s21, s22, s23, rfl, hbX.alloc hbX.size _, fun h => q0 (was_listed h (by decide)), fun h => q1 (was_listed h (by decide)), fun h => q2 (was_listed h (by decide)), fun h => q3 (was_listed h (by decide)), fun h => q4 (was_listed h (by decide)), fun h => q5 (was_listed h (by decide)), fun h => q6 (was_listed h (by decide)), fun _ => ⟨_, fun _ => .int .i64 0, rfl, hbX.size, World.rowIs_alloc _ _ _ _ (fun i hi => ?_), fun h6 => ?_⟩, fun h => (q8 (was_listed h (by decide))).mono (fun _ _ _ h => h.alloc _) (fun _ hF h6 => hF (was_listed h6 (by decide)))⟩
      · obtain rfl | rfl : i = 0 ∨ i = 1 := by simp at hi; omega
        all_goals rfl
      · have := hcl 9 _ rfl (was_listed h6 (by decide)) { on := 7, ground := .data } (by simp) rfl
        exact absurd this (not_both hnl)
    · refine wpOpIn_step rfl (fun K hK => ?_)
      dsimp only
      go_simp
      refine hK _ _ ⟨s6, _, s17, s18, s19, s20, s21, s22, s23, rfl, hbX.alloc hbX.size _, fun h => q0 (was_listed h (by decide)), fun h => q1 (was_listed h (by decide)), fun h => q2 (was_listed h (by decide)), fun h => q3 (was_listed h (by decide)), fun h => q4 (was_listed h (by decide)), fun h => q5 (was_listed h (by decide)), fun h => q6 (was_listed h (by decide)), fun h => (q7 (was_listed h (by decide))).mono (fun _ _ _ h => h.alloc _) (fun _ hF h6 => hF (was_listed h6 (by decide))), fun _ => ⟨_, fun _ => .int .i64 0, rfl, hbX.size, World.rowIs_alloc _ _ _ _ (fun i hi => ?_), fun h6 => ?_⟩⟩
      · obtain rfl : i = 0 := by simp at hi; omega
        rfl
      · have := hcl 10 _ rfl (was_listed h6 (by decide)) { on := 8, ground := .data } (by simp) rfl
        exact absurd this (not_both hnl)
    · obtain rfl := q4 (hall { on := 4, ground := .data } (by simp) rfl)
      obtain ⟨B, F, rfl, hB, hrow, hF⟩ := q7 (hall { on := 7, ground := .data } (by simp) rfl)
      have hcell0 := hrow.cell (i := 0) (by omega)
      have hcell1 := hrow.cell (i := 1) (by omega)
      have hfz0 := hrow.frozen 0
      have hfz1 := hrow.frozen 1
      refine wpOpIn_step rfl (fun K hK => ?_)
      dsimp only
      go_simp
      refine hK _ _ ⟨_, s7, s17, s18, s19, s20, _, s22, s23, rfl, (hbX.setCell hB _).setCell hB _, fun h => q0 (was_listed h (by decide)), fun h => q1 (was_listed h (by decide)), fun h => q2 (was_listed h (by decide)), fun h => q3 (was_listed h (by decide)), fun h => q4 (was_listed h (by decide)), fun h => q5 (was_listed h (by decide)), fun h => q6 (was_listed h (by decide)), fun _ => ⟨B, _, rfl, hB, (hrow.set 0 _).set 1 _, fun _ => ⟨rfl, rfl⟩⟩, fun h => (q8 (was_listed h (by decide))).mono (fun B' F' hB' h' => (h'.setOther (rowIs_ne h' hrow (by decide)) _).setOther (rowIs_ne h' hrow (by decide)) _) (fun _ hF h6 => hF (was_listed h6 (by decide)))⟩
    · obtain rfl := q6 (hall { on := 6, ground := .data } (by simp) rfl)
      obtain ⟨B, F, rfl, hB, hrow, hF⟩ := q8 (hall { on := 8, ground := .data } (by simp) rfl)
      have hcell0 := hrow.cell (i := 0) (by omega)
      have hfz0 := hrow.frozen 0
      refine wpOpIn_step rfl (fun K hK => ?_)
      dsimp only
      go_simp
      refine hK _ _ ⟨s6, _, s17, s18, s19, s20, s21, s22, _, rfl, hbX.setCell hB _, fun h => q0 (was_listed h (by decide)), fun h => q1 (was_listed h (by decide)), fun h => q2 (was_listed h (by decide)), fun h => q3 (was_listed h (by decide)), fun h => q4 (was_listed h (by decide)), fun h => q5 (was_listed h (by decide)), fun h => q6 (was_listed h (by decide)), fun h => (q7 (was_listed h (by decide))).mono (fun B' F' hB' h' => h'.setOther (rowIs_ne h' hrow (by decide)) _) (fun _ hF h6 => hF (was_listed h6 (by decide))), fun _ => ⟨B, _, rfl, hB, hrow.set 0 _, fun _ => rfl⟩⟩
  rintro L a X hall ⟨s6, s7, s17, s18, s19, s20, s21, s22, s23, rfl, hbX, -, -, -, -, -, -, -, q7, q8⟩
  obtain ⟨Bg, Fg, rfl, hBg, hrg, hFg⟩ := q7 (hall 7 (by decide))
  obtain ⟨Bw, Fw, rfl, hBw, hrw, hFw⟩ := q8 (hall 8 (by decide))
  obtain ⟨hg0, hg1⟩ := hFg (hall 9 (by decide))
  have hw0 := hFw (hall 10 (by decide))
  have kg0 := hrg.cell (i := 0) (by omega)
  have kg1 := hrg.cell (i := 1) (by omega)
  have kw0 := hrw.cell (i := 0) (by omega)
  rw [hg0] at kg0
  rw [hg1] at kg1
  rw [hw0] at kw0
  have k51 := (hbX.cell (p := ⟨w.heap.size, 0, none⟩) (by simp; omega)).trans k5
  have ks1 := (hbX.cell (p := ⟨Bs, 0, none⟩) (by simp; omega)).trans ks
  have kp1 := (hbX.cell (p := ⟨Bp, 0, none⟩) (by simp; omega)).trans kp
  have hb1 : Below w.heap.size w X := hb0.trans (hbX.mono (by omega))
  have hsz1 := hbX.size
  have hBgX := hrg.lt
  have hBwX := hrw.lt
  clear hall q7 q8 hFg hFw hg0 hg1 hw0 hrg hrw hb0 hbX k5 ks kp kc hsz0
  dsimp only
  gi_wp2
  refine ⟨trivial, (callsIn_wide.2 (silent_gr hr1 hr8 hc4 X)).mono ?_⟩
  rintro y w2 ⟨rfl, hgr, hb2⟩
  have hs2 := hb2.size
  have LIFT := fun (q : Addr) (v : Value) (h : X.cell? q = some v) => (hb2.cell (p := q) (cell_lt h)).trans h
  have k52 := LIFT _ _ k51
  have ks2 := LIFT _ _ ks1
  have kp2 := LIFT _ _ kp1
  have kg2 := LIFT _ _ kg0
  have kh2 := LIFT _ _ kg1
  have kw2 := LIFT _ _ kw0
  have hgl : ∀ j, j ≤ r → X.heap.size + j < w2.heap.size := by
    intro j hj
    by_cases h0 : j = 0
    · subst h0; exact hgr.top.lt
    · have h : X.heap.size + 1 + (j - 1) < w2.heap.size := (hgr.rows (j - 1) (by omega)).lt
      omega
  have hwX := hb1.size
  have hb3 : Below w.heap.size w w2 := hb1.trans (hb2.mono (by omega))
  clear LIFT k51 ks1 kp1 kg0 kg1 kw0 hb1 hb2
  have HGR := Lib.hid hgr
  clear hgr
  generalize hN : X.heap.size = N at *
  have kg2' : ∀ Z, (w2.alloc Z).cell? ⟨Bg, 0, none⟩ = some (.int .i64 r) := fun Z => (Same.alloc _ Z).cell kg2
  have kh2' : ∀ Z, (w2.alloc Z).cell? ⟨Bg, 1, none⟩ = some (.int .i64 c) := fun Z => (Same.alloc _ Z).cell kh2
  gi_wp2
  refine ⟨trivial, (callsIn_wide.2 (spots_any _ _ _)).mono ?_⟩
  rintro y w3 ⟨rfl, rfl⟩
  gi_wp2
  have hr0 : Gr N r c (fun _ _ => 0) ((w2.alloc (Obj.cells #[Value.slice (some ⟨N, 0, none⟩) r r] 30)).alloc (Obj.cells #[Value.int IntKind.i64 r, Value.int IntKind.i64 c] 87)) := (HGR.out.alloc _).alloc _
  have ko : ((w2.alloc (Obj.cells #[Value.slice (some ⟨N, 0, none⟩) r r] 30)).alloc (Obj.cells #[Value.int IntKind.i64 r, Value.int IntKind.i64 c] 87)).cell? ⟨w2.heap.size, 0, none⟩ = some (.slice (some ⟨N, 0, none⟩) r r) := by simp [go_sem]
  have kb0 : ((w2.alloc (Obj.cells #[Value.slice (some ⟨N, 0, none⟩) r r] 30)).alloc (Obj.cells #[Value.int IntKind.i64 r, Value.int IntKind.i64 c] 87)).cell? ⟨w2.heap.size + 1, 0, none⟩ = some (.int .i64 r) := by simp [go_sem]
  have kb1 : ((w2.alloc (Obj.cells #[Value.slice (some ⟨N, 0, none⟩) r r] 30)).alloc (Obj.cells #[Value.int IntKind.i64 r, Value.int IntKind.i64 c] 87)).cell? ⟨w2.heap.size + 1, 1, none⟩ = some (.int .i64 c) := by simp [go_sem]
  have hS3 : Below w2.heap.size w2 ((w2.alloc (Obj.cells #[Value.slice (some ⟨N, 0, none⟩) r r] 30)).alloc (Obj.cells #[Value.int IntKind.i64 r, Value.int IntKind.i64 c] 87)) := ((Below.refl _ w2).alloc (Nat.le_refl _) _).alloc (by simp) _
  have hs3 : ((w2.alloc (Obj.cells #[Value.slice (some ⟨N, 0, none⟩) r r] 30)).alloc (Obj.cells #[Value.int IntKind.i64 r, Value.int IntKind.i64 c] 87)).heap.size = w2.heap.size + 2 := by simp
  have LIFT := fun (q : Addr) (v : Value) (h : w2.cell? q = some v) => (hS3.cell (p := q) (cell_lt h)).trans h
  have k53 := LIFT _ _ k52
  have ks3 := LIFT _ _ ks2
  have kp3 := LIFT _ _ kp2
  have kg3 := LIFT _ _ kg2
  have kh3 := LIFT _ _ kh2
  have kw3 := LIFT _ _ kw2
  have hb4 := hb3.trans (hS3.mono (by omega))
  clear LIFT k52 ks2 kp2 kg2 kh2 kw2 hb3 hS3 kg2' kh2'
  generalize hY : ((w2.alloc (Obj.cells #[Value.slice (some ⟨N, 0, none⟩) r r] 30)).alloc (Obj.cells #[Value.int IntKind.i64 r, Value.int IntKind.i64 c] 87)) = Y at *
  clear hY
  have hgl0 := hgl 0 (Nat.zero_le _)
  have hglr := hgl r (Nat.le_refl _)
  clear hgl
  generalize hM2 : w2.heap.size = M at *
  have hwN : w.heap.size ≤ N := by omega
  refine range_all rfl (by omega) (gf := 116) (lb := #[.pointer (some ⟨M + 1, 0, none⟩)]) rfl trivial (enters_of Try.func116 (by kernel_rfl) rfl)
    (spots_seq (12 - 1) (by omega) (M + 1) r c hr8 hc4 (KpB w.heap.size (N + r + 1)) (fun X Y i v h hc => h.cell (by omega) hc) Y (by omega) kb0 kb1)
    (fun h k => h.trans k) (fun X l o o' hl h hc => KpB.put (B := Y.heap.size) (by omega) X l o o' hl h hc) (Below.refl _ _) (fun _ => rfl)
    (fun (pre : List (GoodSpot r c)) Z => (Z.cell? ⟨w.heap.size, 0, none⟩ = some (.iface T x) ∧ Z.cell? ⟨Bs, 0, none⟩ = some (.string s) ∧ Z.cell? ⟨Bp, 0, none⟩ = some (.bool p) ∧ Z.cell? ⟨Bg, 0, none⟩ = some (.int .i64 r) ∧ Z.cell? ⟨Bg, 1, none⟩ = some (.int .i64 c) ∧ Z.cell? ⟨Bw, 0, none⟩ = some (.int .i64 (wid e : Nat)) ∧ Z.cell? ⟨M, 0, none⟩ = some (.slice (some ⟨N, 0, none⟩) r r)) ∧
      Below w.heap.size w Z ∧ ∃ F, Gr N r c F Z ∧ ∀ y ∈ pre.map Subtype.val, F y.1 y.2 = decV e p r c s y)
    ?own ⟨⟨k53, ks3, kp3, kg3, kh3, kw3, ko⟩, hb4, _, hr0, fun y hy => by cases hy⟩
    (fun pre y a' Z => ∃ Bx, 0 ≤ Bx ∧ Z.cell? ⟨Bx, 0, none⟩ = some (.int .i64 y.1.1) ∧ Z.cell? ⟨Bx, 1, none⟩ = some (.int .i64 y.1.2) ∧ a' = { tmps := #[at0 Be, at0 Bc, at0 Bs, at0 Bp, .slice none 0 0, at0 w.heap.size, .pointer (some ⟨Bg, 0, none⟩), .pointer (some ⟨Bw, 0, none⟩), .pointer (some ⟨M, 0, none⟩), .int .i64 0, .pointer (some ⟨Bx, 0, none⟩), undef, .int .i64 e, .iface T x, .int .i64 r, .bool true, .tuple #[], s17, s18, s19, s20, s21, s22, s23, .tuple #[.slice (some ⟨N, 0, none⟩) r r, .int .i64 0], .pointer (some ⟨Bg, 0, none⟩), .int .i64 r, .pointer (some ⟨Bg, 1, none⟩), .int .i64 c, .tuple #[.slice (some ⟨N, 0, none⟩) r r, .int .i64 0], .slice (some ⟨N, 0, none⟩) r r, .int .i64 0, .agg #[.int .i64 r, .int .i64 c], .func (.func 116) #[] #[.pointer (some ⟨M + 1, 0, none⟩)], .agg #[.int .i64 y.1.1, .int .i64 y.1.2], undef, undef, undef, undef, undef, undef, undef, undef, undef, undef, undef, undef, undef, undef, undef, undef, undef, undef, undef, undef, undef, undef, undef, undef, undef, undef, undef, undef, undef], defers := [] })
    ?ownAx ?assign ?body ?done
  case own =>
    rintro pre Z Z' row ⟨⟨a1, a2, a3, a4, a5, a6, a7⟩, b2, F, b3, b4⟩ hg hr
    have hnc : ∀ r, row = some r → ∃ o : Obj, Z.heap[r]? = some o ∧ o.isCells = false := fun r e => (hr r e).2
    exact ⟨⟨cell_kept a1 hg hnc, cell_kept a2 hg hnc, cell_kept a3 hg hnc, cell_kept a4 hg hnc, cell_kept a5 hg hnc, cell_kept a6 hg hnc, cell_kept a7 hg hnc⟩, b2.grown hg b2.size (fun r e => by have := (hr r e).1; omega), F, b3.own hg hnc, b4⟩
  case ownAx =>
    rintro pre y a' _ Z Z' row ⟨Bx, c1, c2, c3, c4⟩ hg hr
    exact ⟨Bx, c1, cell_kept c2 hg (fun r e => (hr r e).2), cell_kept c3 hg (fun r e => (hr r e).2), c4⟩
  case assign =>
    rintro l pre y Z K ⟨⟨a1, a2, a3, a4, a5, a6, a7⟩, b2, F, b3, b4⟩ hK
    dsimp only [spotVals]
    have hzs := b2.size
    have hlt := cell_lt a7
    simp only at hlt
    gi_wp2
    refine hK _ _ ((KeepsOthers.alloc _ _).from _) (KpB.alloc _ _ (by omega)) ⟨⟨(Same.alloc _ _).cell a1, (Same.alloc _ _).cell a2, (Same.alloc _ _).cell a3, (Same.alloc _ _).cell a4, (Same.alloc _ _).cell a5, (Same.alloc _ _).cell a6, (Same.alloc _ _).cell a7⟩, b2.alloc b2.size _, F, b3.alloc _, b4⟩ ⟨Z.heap.size, by omega, by simp [go_sem], by simp [go_sem], rfl⟩
  case body =>
    rintro l pre ⟨⟨i, k⟩, hi, hk⟩ a' Z ⟨⟨a1, a2, a3, a4, a5, a6, a7⟩, b2, F, b3, b4⟩ ⟨Bx, hBx, c0, c1, rfl⟩ hlen
    simp only at hi hk c0 c1
    dsimp only
    obtain ⟨PL, hPL⟩ : ∃ PL, placeOf p r c (i, k) = PL := ⟨_, rfl⟩
    have h83 : ∀ W, Calls Try.prog 83 #[.agg #[.int .i64 r, .int .i64 c], .agg #[.int .i64 i, .int .i64 k], .bool p] W fun e w' => e = .returned (.int .i64 (PL : Nat)) ∧ Below W.heap.size W w' := fun W => by
      rw [← hPL]; exact place_any r c i k p hr8 hc4 hi hk W
    have hPN : PL * wid e + wid e ≤ s.size := by
      have h := place_lt (p := p) (x := (i, k)) hi hk
      rw [hPL] at h
      rw [HS.out]
      calc PL * wid e + wid e = (PL + 1) * wid e := by rw [Nat.add_mul, Nat.one_mul]
        _ ≤ r * c * wid e := Nat.mul_le_mul_right _ h
    have hNb : s.size ≤ 131072 := by
      rw [HS.out]
      calc r * c * wid e ≤ 32768 * wid e := Nat.mul_le_mul_right _ (mul_le8 hr8 (Nat.le_refl _) hc4)
        _ ≤ 32768 * 4 := Nat.mul_le_mul_left _ hwd.1
    obtain ⟨PW, hPW⟩ : ∃ PW, PL * wid e = PW := ⟨_, rfl⟩
    rw [hPW] at hPN
    have hdv : decV e p r c s (i, k) = smp (bitsN e) (bnd (getN e (s.extract PW s.size)) (topN (bitsN e))) := by unfold decV; rw [hPL, hPW]
    have hPs : PW ≤ s.size := by omega
    have hmul : IntKind.i64.wrap ((PL : Int) * ((wid e : Nat) : Int)) = (PW : Int) := by
      have h1 : PW ≤ 131072 := by omega
      rw [← Int.natCast_mul, hPW, w64w (by omega)]
    have hsl : ∀ W : World, (Instr.slice 9 (.string s) (some (.int .i64 (PW : Int))) none none).run Try.prog W = .ok (.string (s.extract PW s.size)) W := fun W => by
      have := run_slice_string_from_if W 9 s .i64 (PW : Int) Try.underlying9
      rw [if_pos (by omega), Int.toNat_natCast] at this
      exact this
    have hsz : wid e ≤ (s.extract PW s.size).size := by
      rw [ByteArray.size_extract]; omega
    obtain ⟨gm, hgm, hge, hgn, hget⟩ := HGT.out
    obtain ⟨cm, hcm, hce, hcall⟩ := HCD.out
    have hget := fun W => hget (s.extract PW s.size) W hsz
    generalize s.extract PW s.size = st at *
    have hGB := getN_bd h1 h8 st
    obtain ⟨G, hG⟩ : ∃ G, getN e st = G := ⟨_, rfl⟩
    simp only [hG] at hget hGB hdv
    have hmf : ∀ (fn : Fn) (first cap : Array Value) (w : World), (Instr.makeFunc fn first cap).run Try.prog w = .ok (.func fn first cap) w := fun _ _ _ _ => rfl
    have htp : 0 ≤ topN (bitsN e) ∧ topN (bitsN e) ≤ 2147483647 := eightN h1 h8 (p := fun e => 0 ≤ topN (bitsN e) ∧ topN (bitsN e) ≤ 2147483647) (by decide) (by decide) (by decide) (by decide) (by decide) (by decide) (by decide) (by decide)
    have HGET := Lib.hid hget
    have HBITS := Lib.hid hcall
    have H83 := Lib.hid h83
    have hS0 : Below Z.heap.size Z Z.drew := (Below.refl _ Z).drew
    have HB2 := Lib.hid b2
    have HB3 := Lib.hid b3
    have HB4 := Lib.hid b4
    have HDV := Lib.hid hdv
    clear hget hcall h83 b2 b3 b4 hdv hr0 k53 ks3 kp3 kg3 kh3 kw3 ko kb0 kb1 hPN hPL
    gi_wp2
    refine regionIn_T (S := fun wx => Below Z.heap.size Z wx) [] hmx hS0 (fun _ => ?_)
    refine anyTI_take (i := 0) (v := ?_) rfl (by kernel_rfl) (by kernel_rfl) (by kernel_rfl) (by kernel_rfl) (fun _ _ _ h => h) ⟨Or.inl ⟨by rfl, ?_⟩, fun _ => rfl⟩ (hS0) ?_
    rotate_left
    focus ((intro wq hSw; have z0 := (hSw.cell (p := ⟨w.heap.size, 0, none⟩) (cell_lt a1)).trans a1; go_simp); try with_reducible rfl)
    try simp only [Act.put, List.getElem_toArray, List.getElem_cons_succ, List.getElem_cons_zero, List.setIfInBounds_toArray, List.set_cons_zero, List.set_cons_succ]
    refine anyTI_take (i := 1) (v := ?_) rfl (by kernel_rfl) (by kernel_rfl) (by kernel_rfl) (by kernel_rfl) (fun _ _ _ h => h) ⟨Or.inl ⟨by rfl, ?_⟩, fun _ => rfl⟩ (hS0) ?_
    rotate_left
    focus ((intro wq hSw; have z0 := (hSw.cell (p := ⟨Bs, 0, none⟩) (cell_lt a2)).trans a2; go_simp); try with_reducible rfl)
    try simp only [Act.put, List.getElem_toArray, List.getElem_cons_succ, List.getElem_cons_zero, List.setIfInBounds_toArray, List.set_cons_zero, List.set_cons_succ]
    refine anyTI_take (i := 2) (v := ?_) rfl (by kernel_rfl) (by kernel_rfl) (by kernel_rfl) (by kernel_rfl) (fun _ _ _ h => h) ⟨Or.inl ⟨by rfl, ?_⟩, fun _ => rfl⟩ (hS0) ?_
    rotate_left
    focus ((intro wq hSw; have z0 := (hSw.cell (p := ⟨Bg, 0, none⟩) (cell_lt a4)).trans a4; have z1 := (hSw.cell (p := ⟨Bg, 1, none⟩) (cell_lt a5)).trans a5; go_simp); try with_reducible rfl)
    try simp only [Act.put, List.getElem_toArray, List.getElem_cons_succ, List.getElem_cons_zero, List.setIfInBounds_toArray, List.set_cons_zero, List.set_cons_succ]
    refine anyTI_take (i := 3) (v := ?_) rfl (by kernel_rfl) (by kernel_rfl) (by kernel_rfl) (by kernel_rfl) (fun _ _ _ h => h) ⟨Or.inl ⟨by rfl, ?_⟩, fun _ => rfl⟩ (hS0) ?_
    rotate_left
    focus ((intro wq hSw; have z0 := (hSw.cell (p := ⟨Bx, 0, none⟩) (cell_lt c0)).trans c0; have z1 := (hSw.cell (p := ⟨Bx, 1, none⟩) (cell_lt c1)).trans c1; go_simp); try with_reducible rfl)
    try simp only [Act.put, List.getElem_toArray, List.getElem_cons_succ, List.getElem_cons_zero, List.setIfInBounds_toArray, List.set_cons_zero, List.set_cons_succ]
    refine anyTI_take (i := 4) (v := ?_) rfl (by kernel_rfl) (by kernel_rfl) (by kernel_rfl) (by kernel_rfl) (fun _ _ _ h => h) ⟨Or.inl ⟨by rfl, ?_⟩, fun _ => rfl⟩ (hS0) ?_
    rotate_left
    focus ((intro wq hSw; have z0 := (hSw.cell (p := ⟨Bp, 0, none⟩) (cell_lt a3)).trans a3; go_simp); try with_reducible rfl)
    try simp only [Act.put, List.getElem_toArray, List.getElem_cons_succ, List.getElem_cons_zero, List.setIfInBounds_toArray, List.set_cons_zero, List.set_cons_succ]
    refine anyTI_take (i := 6) (v := ?_) rfl (by kernel_rfl) (by kernel_rfl) (by kernel_rfl) (by kernel_rfl) (fun _ _ _ h => h) ⟨Or.inl ⟨by rfl, ?_⟩, fun _ => rfl⟩ (hS0) ?_
    rotate_left
    focus ((intro wq hSw; have z0 := (hSw.cell (p := ⟨Bw, 0, none⟩) (cell_lt a6)).trans a6; go_simp); try with_reducible rfl)
    try simp only [Act.put, List.getElem_toArray, List.getElem_cons_succ, List.getElem_cons_zero, List.setIfInBounds_toArray, List.set_cons_zero, List.set_cons_succ]
    refine anyTI_take (i := 9) (v := ?_) rfl (by kernel_rfl) (by kernel_rfl) (by kernel_rfl) (by kernel_rfl) (fun _ _ _ h => h) ⟨Or.inl ⟨by rfl, ?_⟩, fun _ => rfl⟩ (hS0) ?_
    rotate_left
    focus ((intro wq hSw; skip; go_simp); try with_reducible rfl)
    try simp only [Act.put, List.getElem_toArray, List.getElem_cons_succ, List.getElem_cons_zero, List.setIfInBounds_toArray, List.set_cons_zero, List.set_cons_succ]
    refine anyTI_take (i := 10) (v := ?_) rfl (by kernel_rfl) (by kernel_rfl) (by kernel_rfl) (by kernel_rfl) (fun _ _ _ h => h) ⟨Or.inl ⟨by rfl, ?_⟩, fun _ => rfl⟩ (hS0) ?_
    rotate_left
    focus ((intro wq hSw; skip; go_simp); try with_reducible rfl)
    try simp only [Act.put, List.getElem_toArray, List.getElem_cons_succ, List.getElem_cons_zero, List.setIfInBounds_toArray, List.set_cons_zero, List.set_cons_succ]
    refine anyTI_take (i := 11) (v := ?_) rfl (by kernel_rfl) (by kernel_rfl) (by kernel_rfl) (by kernel_rfl) (fun _ _ _ h => h) ⟨Or.inl ⟨by rfl, ?_⟩, fun _ => rfl⟩ (hS0) ?_
    rotate_left
    focus ((intro wq hSw; skip; go_simp); try with_reducible rfl)
    try simp only [Act.put, List.getElem_toArray, List.getElem_cons_succ, List.getElem_cons_zero, List.setIfInBounds_toArray, List.set_cons_zero, List.set_cons_succ]
    refine anyTI_take (i := 13) (v := ?_) rfl (by kernel_rfl) (by kernel_rfl) (by kernel_rfl) (by kernel_rfl) (fun _ _ _ h => h) ⟨Or.inl ⟨by rfl, ?_⟩, fun _ => rfl⟩ (hS0) ?_
    rotate_left
    focus ((intro wq hSw; have z0 := (hSw.cell (p := ⟨w.heap.size, 0, none⟩) (cell_lt a1)).trans a1; go_simp); try with_reducible rfl)
    try simp only [Act.put, List.getElem_toArray, List.getElem_cons_succ, List.getElem_cons_zero, List.setIfInBounds_toArray, List.set_cons_zero, List.set_cons_succ]
    refine anyTI_one (i := 5) (by kernel_rfl) rfl (fun K hK => ?_)
    go_simp
    refine ⟨trivial, (callsIn_wide.2 (H83.out _)).mono ?_⟩
    rintro y Z1 ⟨rfl, hd1⟩
    have hS1 : Below Z.heap.size Z Z1 := hS0.trans (hd1.mono hS0.size)
    refine hK _ _ (fun _ => hS1) ?_
    clear hK K
    try simp only [Act.put, List.getElem_toArray, List.getElem_cons_succ, List.getElem_cons_zero, List.setIfInBounds_toArray, List.set_cons_zero, List.set_cons_succ]
    refine anyTI_take (i := 7) (v := ?_) rfl (by kernel_rfl) (by kernel_rfl) (by kernel_rfl) (by kernel_rfl) (fun _ _ _ h => h) ⟨Or.inl ⟨by rfl, ?_⟩, fun _ => rfl⟩ (hS1) ?_
    rotate_left
    focus ((intro wq hSw; skip; go_simp); try with_reducible rfl)
    try simp only [Act.put, List.getElem_toArray, List.getElem_cons_succ, List.getElem_cons_zero, List.setIfInBounds_toArray, List.set_cons_zero, List.set_cons_succ]
    try rw [hmul]
    refine anyTI_take (i := 8) (v := ?_) rfl (by kernel_rfl) (by kernel_rfl) (by kernel_rfl) (by kernel_rfl) (fun _ _ _ h => h) ⟨Or.inl ⟨by rfl, ?_⟩, fun _ => rfl⟩ (hS1) ?_
    rotate_left
    focus ((intro wq hSw; skip; go_simp); try with_reducible rfl)
    try simp only [Act.put, List.getElem_toArray, List.getElem_cons_succ, List.getElem_cons_zero, List.setIfInBounds_toArray, List.set_cons_zero, List.set_cons_succ]
    refine anyTI_one (i := 12) (by kernel_rfl) rfl (fun K hK => ?_)
    go_simp
    refine ⟨trivial, (callsIn_wide.2 (HGET.out _)).mono ?_⟩
    rintro y Z2 ⟨rfl, hd2⟩
    have hS2 : Below Z.heap.size Z Z2 := hS1.trans (hd2.mono hS1.size)
    refine hK _ _ (fun _ => hS2) ?_
    clear hK K
    try simp only [Act.put, List.getElem_toArray, List.getElem_cons_succ, List.getElem_cons_zero, List.setIfInBounds_toArray, List.set_cons_zero, List.set_cons_succ]
    refine anyTI_one (i := 14) (by kernel_rfl) rfl (fun K hK => ?_)
    go_simp
    refine ⟨trivial, (callsIn_wide.2 (HBITS.out _)).mono ?_⟩
    rintro y Z3 ⟨rfl, hd3⟩
    have hS3 : Below Z.heap.size Z Z3 := hS2.trans (hd3.mono hS2.size)
    refine hK _ _ (fun _ => hS3) ?_
    clear hK K
    try simp only [Act.put, List.getElem_toArray, List.getElem_cons_succ, List.getElem_cons_zero, List.setIfInBounds_toArray, List.set_cons_zero, List.set_cons_succ]
    refine anyTI_one (i := 15) (by kernel_rfl) rfl (fun K hK => ?_)
    go_simp
    refine ⟨trivial, (callsIn_wide.2 (H58.out _)).mono ?_⟩
    rintro y Z4 ⟨rfl, rfl⟩
    refine hK _ _ (fun _ => hS3) ?_
    clear hK K
    try simp only [Act.put, List.getElem_toArray, List.getElem_cons_succ, List.getElem_cons_zero, List.setIfInBounds_toArray, List.set_cons_zero, List.set_cons_succ]
    refine anyTI_one (i := 16) (by kernel_rfl) rfl (fun K hK => ?_)
    go_simp
    refine ⟨trivial, (callsIn_wide.2 (bounded_any G _ _ htp.1 htp.2)).mono ?_⟩
    rintro y Z4 ⟨rfl, rfl⟩
    refine hK _ _ (fun _ => hS3) ?_
    clear hK K
    try simp only [Act.put, List.getElem_toArray, List.getElem_cons_succ, List.getElem_cons_zero, List.setIfInBounds_toArray, List.set_cons_zero, List.set_cons_succ]
    refine anyTI_take (i := 17) (v := ?_) rfl (by kernel_rfl) (by kernel_rfl) (by kernel_rfl) (by kernel_rfl) (fun _ _ _ h => h) ⟨Or.inl ⟨by rfl, ?_⟩, fun _ => rfl⟩ (hS3) ?_
    rotate_left
    focus ((intro wq hSw; skip; go_simp); try with_reducible rfl)
    try simp only [Act.put, List.getElem_toArray, List.getElem_cons_succ, List.getElem_cons_zero, List.setIfInBounds_toArray, List.set_cons_zero, List.set_cons_succ]
    refine anyTI_done (by kernel_rfl) ?_ _
    obtain ⟨Lv, hLv⟩ : ∃ Lv, bnd G (topN (bitsN e)) = Lv := ⟨_, rfl⟩
    rw [hLv] at HDV ⊢
    have hlv2 : -1099511627776 ≤ Lv ∧ Lv ≤ 1099511627776 := by rw [← hLv]; unfold bnd; omega
    have H59' := Lib.hid (fun X => H59.out Lv hlv2.1 hlv2.2 X)
    clear hLv
    have hrow := HB3.out.rows i hi
    have htop := HB3.out.top.cell (i := i) hi
    rw [show topZ N c r i = .slice (some ⟨N + 1 + i, 0, none⟩) c c from by unfold topZ; rw [if_pos hi]] at htop
    have w1 : decide ((i : Int) < (r : Int)) = true := decide_eq_true (by omega)
    have w2' : decide (i < r) = true := decide_eq_true hi
    have w3 : decide ((k : Int) < (c : Int)) = true := decide_eq_true (by omega)
    have w4 : decide (k < c) = true := decide_eq_true hk
    have w5 : (i : Int) < (r : Int) := by omega
    have w6 : (k : Int) < (c : Int) := by omega
    have hS0' : Below Z.heap.size Z Z3.drew := hS3.drew
    gi_wp2
    refine regionIn_T (S := fun wx => Below Z.heap.size Z wx) [11] hmx hS0' (fun _ => ?_)
    refine anyTI_take (i := 0) (v := ?_) rfl (by kernel_rfl) (by kernel_rfl) (by kernel_rfl) (by kernel_rfl) (fun _ _ _ h => h) ⟨Or.inl ⟨by rfl, ?_⟩, fun _ => rfl⟩ (hS0') ?_
    rotate_left
    focus ((intro wq hSw; have z0 := (hSw.cell (p := ⟨M, 0, none⟩) (cell_lt a7)).trans a7; go_simp); try with_reducible rfl)
    try simp only [Act.put, List.getElem_toArray, List.getElem_cons_succ, List.getElem_cons_zero, List.setIfInBounds_toArray, List.set_cons_zero, List.set_cons_succ]
    refine anyTI_take (i := 1) (v := ?_) rfl (by kernel_rfl) (by kernel_rfl) (by kernel_rfl) (by kernel_rfl) (fun _ _ _ h => h) ⟨Or.inl ⟨by rfl, ?_⟩, fun _ => rfl⟩ (hS0') ?_
    rotate_left
    focus ((intro wq hSw; skip; go_simp); try with_reducible rfl)
    try simp only [Act.put, List.getElem_toArray, List.getElem_cons_succ, List.getElem_cons_zero, List.setIfInBounds_toArray, List.set_cons_zero, List.set_cons_succ]
    refine anyTI_take (i := 2) (v := ?_) rfl (by kernel_rfl) (by kernel_rfl) (by kernel_rfl) (by kernel_rfl) (fun _ _ _ h => h) ⟨Or.inl ⟨by rfl, ?_⟩, fun _ => rfl⟩ (hS0') ?_
    rotate_left
    focus ((intro wq hSw; have z0 := (hSw.cell (p := ⟨Bx, 0, none⟩) (cell_lt c0)).trans c0; go_simp); try with_reducible rfl)
    try simp only [Act.put, List.getElem_toArray, List.getElem_cons_succ, List.getElem_cons_zero, List.setIfInBounds_toArray, List.set_cons_zero, List.set_cons_succ]
    refine anyTI_take (i := 3) (v := ?_) rfl (by kernel_rfl) (by kernel_rfl) (by kernel_rfl) (by kernel_rfl) (fun _ _ _ h => h) ⟨Or.inl ⟨by rfl, ?_⟩, fun _ => rfl⟩ (hS0') ?_
    rotate_left
    focus ((intro wq hSw; skip; go_simp); try with_reducible rfl)
    try simp only [Act.put, List.getElem_toArray, List.getElem_cons_succ, List.getElem_cons_zero, List.setIfInBounds_toArray, List.set_cons_zero, List.set_cons_succ]
    refine anyTI_take (i := 4) (v := ?_) rfl (by kernel_rfl) (by kernel_rfl) (by kernel_rfl) (by kernel_rfl) (fun _ _ _ h => h) ⟨Or.inl ⟨by rfl, ?_⟩, fun _ => rfl⟩ (hS0') ?_
    rotate_left
    focus ((intro wq hSw; have z0 := (hSw.cell (p := ⟨N, i, none⟩) (cell_lt htop)).trans htop; go_simp); try with_reducible rfl)
    try simp only [Act.put, List.getElem_toArray, List.getElem_cons_succ, List.getElem_cons_zero, List.setIfInBounds_toArray, List.set_cons_zero, List.set_cons_succ]
    refine anyTI_take (i := 5) (v := ?_) rfl (by kernel_rfl) (by kernel_rfl) (by kernel_rfl) (by kernel_rfl) (fun _ _ _ h => h) ⟨Or.inl ⟨by rfl, ?_⟩, fun _ => rfl⟩ (hS0') ?_
    rotate_left
    focus ((intro wq hSw; skip; go_simp); try with_reducible rfl)
    try simp only [Act.put, List.getElem_toArray, List.getElem_cons_succ, List.getElem_cons_zero, List.setIfInBounds_toArray, List.set_cons_zero, List.set_cons_succ]
    refine anyTI_take (i := 6) (v := ?_) rfl (by kernel_rfl) (by kernel_rfl) (by kernel_rfl) (by kernel_rfl) (fun _ _ _ h => h) ⟨Or.inl ⟨by rfl, ?_⟩, fun _ => rfl⟩ (hS0') ?_
    rotate_left
    focus ((intro wq hSw; have z0 := (hSw.cell (p := ⟨Bx, 1, none⟩) (cell_lt c1)).trans c1; go_simp); try with_reducible rfl)
    try simp only [Act.put, List.getElem_toArray, List.getElem_cons_succ, List.getElem_cons_zero, List.setIfInBounds_toArray, List.set_cons_zero, List.set_cons_succ]
    refine anyTI_take (i := 7) (v := ?_) rfl (by kernel_rfl) (by kernel_rfl) (by kernel_rfl) (by kernel_rfl) (fun _ _ _ h => h) ⟨Or.inl ⟨by rfl, ?_⟩, fun _ => rfl⟩ (hS0') ?_
    rotate_left
    focus ((intro wq hSw; have z0 := (hSw.cell (p := ⟨w.heap.size, 0, none⟩) (cell_lt a1)).trans a1; go_simp); try with_reducible rfl)
    try simp only [Act.put, List.getElem_toArray, List.getElem_cons_succ, List.getElem_cons_zero, List.setIfInBounds_toArray, List.set_cons_zero, List.set_cons_succ]
    refine anyTI_take (i := 8) (v := ?_) rfl (by kernel_rfl) (by kernel_rfl) (by kernel_rfl) (by kernel_rfl) (fun _ _ _ h => h) ⟨Or.inl ⟨by rfl, ?_⟩, fun _ => rfl⟩ (hS0') ?_
    rotate_left
    focus ((intro wq hSw; skip; go_simp); try with_reducible rfl)
    try simp only [Act.put, List.getElem_toArray, List.getElem_cons_succ, List.getElem_cons_zero, List.setIfInBounds_toArray, List.set_cons_zero, List.set_cons_succ]
    refine anyTI_one (i := 9) (by kernel_rfl) rfl (fun K hK => ?_)
    go_simp
    refine ⟨trivial, (callsIn_wide.2 (H59'.out _)).mono ?_⟩
    rintro y Z5 ⟨rfl, hd5⟩
    have hS5 : Below Z.heap.size Z Z5 := hS0'.trans (hd5.mono hS0'.size)
    refine hK _ _ (fun _ => hS5) ?_
    clear hK K
    try simp only [Act.put, List.getElem_toArray, List.getElem_cons_succ, List.getElem_cons_zero, List.setIfInBounds_toArray, List.set_cons_zero, List.set_cons_succ]
    refine anyTI_take (i := 10) (v := ?_) rfl (by kernel_rfl) (by kernel_rfl) (by kernel_rfl) (by kernel_rfl) (fun _ _ _ h => h) ⟨Or.inl ⟨by rfl, ?_⟩, fun _ => rfl⟩ (hS5) ?_
    rotate_left
    focus ((intro wq hSw; skip; go_simp); try with_reducible rfl)
    try simp only [Act.put, List.getElem_toArray, List.getElem_cons_succ, List.getElem_cons_zero, List.setIfInBounds_toArray, List.set_cons_zero, List.set_cons_succ]
    have hgr5 : Gr N r c F Z5 := ((HB3.out.below hS3).drew').below hd5
    have hcell := (hgr5.rows i hi).cell hk
    have hfz := (hgr5.rows i hi).frozen k
    refine anyTI_one (i := 11) (by kernel_rfl) rfl (fun K hK => ?_)
    go_simp
    refine hK _ _ (fun h => by cases h) ?_
    clear hK K
    have hF1 := Lib.hid (((others_of_below hS5).trans (KeepsOthers.setCell Z5 ⟨N + 1 + i, k, none⟩ (.int .i64 (smp (bitsN e) Lv)))).from (M + 2))
    have hzz := HB2.out.size
    have hF2 := Lib.hid (show KpB w.heap.size (N + r + 1) Z (Z5.setCell ⟨N + 1 + i, k, none⟩ (.int .i64 (smp (bitsN e) Lv))) from
      ⟨(hS5.mono hzz).setCell (by show w.heap.size ≤ N + 1 + i; omega) _, fun q o hq ho _ => (blk_setCell_other _ _ _ _ (by show q ≠ N + 1 + i; omega)).trans ((hS5.block q (Array.getElem?_eq_some_iff.1 ho).1).trans ho)⟩)
    have hF3 := Lib.hid (show ((Z5.cell? ⟨w.heap.size, 0, none⟩ = some (.iface T x) ∧ Z5.cell? ⟨Bs, 0, none⟩ = some (.string s) ∧ Z5.cell? ⟨Bp, 0, none⟩ = some (.bool p) ∧ Z5.cell? ⟨Bg, 0, none⟩ = some (.int .i64 r) ∧ Z5.cell? ⟨Bg, 1, none⟩ = some (.int .i64 c) ∧ Z5.cell? ⟨Bw, 0, none⟩ = some (.int .i64 (wid e : Nat)) ∧ Z5.cell? ⟨M, 0, none⟩ = some (.slice (some ⟨N, 0, none⟩) r r))) from
      ⟨(hS5.cell (cell_lt a1)).trans a1, (hS5.cell (cell_lt a2)).trans a2, (hS5.cell (cell_lt a3)).trans a3, (hS5.cell (cell_lt a4)).trans a4, (hS5.cell (cell_lt a5)).trans a5, (hS5.cell (cell_lt a6)).trans a6, (hS5.cell (cell_lt a7)).trans a7⟩)
    have hF4 := Lib.hid ((HB2.out.trans (hS5.mono hzz)).setCell (p := ⟨N + 1 + i, k, none⟩) (by show w.heap.size ≤ N + 1 + i; omega) (.int .i64 (smp (bitsN e) Lv)))
    have hF5 := Lib.hid (hgr5.set hi k (smp (bitsN e) Lv))
    have hF6 := Lib.hid (show ∀ (a b : Nat), (∃ x, (⟨(a, b), x⟩ : GoodSpot r c) ∈ pre) ∨ a = i ∧ b = k → (if a = i ∧ b = k then smp (bitsN e) Lv else F a b) = decV e p r c s (a, b) from fun a b h => by
      by_cases hab : a = i ∧ b = k
      · obtain ⟨rfl, rfl⟩ := hab
        rw [if_pos ⟨rfl, rfl⟩]; exact HDV.out.symm
      · rw [if_neg hab]
        rcases h with ⟨x, hx⟩ | h
        · exact HB4.out (a, b) (List.mem_map.2 ⟨_, hx, rfl⟩)
        · exact absurd h hab)
    clear hgr5 hcell hfz hrow htop a1 a2 a3 a4 a5 a6 a7 c0 c1
    refine anyTI_done (by kernel_rfl) ?_ _
    gi_wp2
    exact ⟨hF1.out, hF2.out, hF3.out, hF4.out, _, hF5.out, hF6.out⟩
  case done =>
    rintro D xs Z hD hxs ⟨⟨a1, a2, a3, a4, a5, a6, a7⟩, b2, F, b3, b4⟩ hK
    rw [hxs] at b4
    have hD' : Y.heap.size ≤ D := hD
    have hg := b3.congr (G := fun i j => decV e p r c s (i, j)) (fun i j hi hj => b4 (i, j) (mem_spTo.2 ⟨hi, hj⟩))
    have hnc : ∀ q, some D = some q → ∃ o : Obj, Z.heap[q]? = some o ∧ o.isCells = false := fun q e => by cases e; exact ⟨_, hK, rfl⟩
    have HG := Lib.hid (fun o => hg.own (grownBy_putObj' Z D o) hnc)
    have HB2 := Lib.hid b2
    clear b2 b3 b4 hg hr0 k53 ks3 kp3 kg3 kh3 kw3 ko kb0 kb1
    gi_wp2
    refine ⟨by simp, .inl ⟨_, _, rfl, run_takeDeferred hK, ?_⟩⟩
    refine ⟨_, results_tmp rfl _ _ _, N, hwN, rfl, HG.out _, HB2.out.grown (grownBy_putObj' Z D _) HB2.out.size (fun b e => by cases e; omega)⟩
end Go.Proofs.Ytegomicpolnpoaa
namespace Go.Proofs.Ytegomicpolnpoaa
open Go.RowKit Go.Deep Go.Shelf

/-- A block of new memory: r rows of c numbers. -/
def NewB (B r c : Nat) (F : Nat → Nat → Int) (v : Value) (w : World) : Prop := ∃ N, B ≤ N ∧ v = .slice (some ⟨N, 0, none⟩) r r ∧ Gr N r c F w
def GridAns (w : World) (r c : Nat) (F : Nat → Nat → Int) (e : Ending) (w' : World) : Prop := ∃ u, e = .returned (.tuple #[u, .int .i64 0]) ∧ NewB w.heap.size r c F u w' ∧ Below w.heap.size w w'
theorem newB_keep {B D r c : Nat} {F : Nat → Nat → Int} (hD : D < B) : ∀ u w1 w2, (∀ k, k ≠ D → k < w1.heap.size → w2.heap[k]? = w1.heap[k]?) → NewB B r c F u w1 → NewB B r c F u w2 := fun u w1 w2 hs ⟨N, hN, e, hg⟩ =>
  ⟨N, hN, e, hg.top.of_block (hs _ (by omega) hg.top.lt), fun j hj => (hg.rows j hj).of_block (hs _ (by omega) (hg.rows j hj).lt)⟩
set_option maxRecDepth 100000 in
theorem decode_yes {e : Nat} (h1 : 1 ≤ e) (h8 : e ≤ 8) (p : Bool) (r c : Nat) (hr1 : 1 ≤ r) (hr8 : r ≤ 8) (hc4 : c ≤ 4096) (s : ByteArray) (hs : s.size = r * c * wid e) (w : World) :
    Calls Try.prog 27 #[.int .i64 e, .bool p, .int .i64 r, .string s] w (GridAns w r c (fun i j => decV e p r c s (i, j))) := by
  have hmf := makes
  obtain ⟨W4, hW4⟩ : ∃ W4, (((w.alloc (.cells #[.int .i64 (e : Int)] 3)).alloc (.cells #[.bool p] 4)).alloc (.cells #[.int .i64 (r : Int)] 3)).alloc (.cells #[.string s] 9) = W4 := ⟨_, rfl⟩
  have hbel : Below w.heap.size w W4 := by rw [← hW4]; exact ((((Below.refl _ w).alloc (Nat.le_refl _) _).alloc (by simp) _).alloc (by simp; omega) _).alloc (by simp; omega) _
  have k0 : ∀ Z, (W4.alloc Z).cell? ⟨w.heap.size, 0, none⟩ = some (.int .i64 e) := fun Z => by refine (Same.alloc _ Z).cell ?_; rw [← hW4]; simp [go_sem]
  have k1 : ∀ Z, (W4.alloc Z).cell? ⟨w.heap.size + 1, 0, none⟩ = some (.bool p) := fun Z => by refine (Same.alloc _ Z).cell ?_; rw [← hW4]; simp [go_sem]
  have k2 : ∀ Z, (W4.alloc Z).cell? ⟨w.heap.size + 1 + 1, 0, none⟩ = some (.int .i64 r) := fun Z => by refine (Same.alloc _ Z).cell ?_; rw [← hW4]; simp [go_sem]
  have k3 : ∀ Z, (W4.alloc Z).cell? ⟨w.heap.size + 1 + 1 + 1, 0, none⟩ = some (.string s) := fun Z => by refine (Same.alloc _ Z).cell ?_; rw [← hW4]; simp [go_sem]
  have hsz : w.heap.size + 4 = W4.heap.size := by rw [← hW4]; simp
  have hf := fitted77_new 78 #[at0 w.heap.size, at0 (w.heap.size + 1 + 1), at0 (w.heap.size + 1 + 1 + 1), at0 (w.heap.size + 1)] W4 (NewB (W4.alloc (.cells #[.int .i64 0] 22)).heap.size r c (fun i j => decV e p r c s (i, j))) (newB_keep (by simp)) (enters_of Try.func78 (by kernel_rfl) rfl _)
    ((decode1_yes h1 h8 p r c hr1 hr8 hc4 s hs _ _ _ _ _ (k0 _) (k2 _) (k3 _) (k1 _)).mono fun y w' ⟨N, g1, g2, g3, g4⟩ => ⟨_, g2, ⟨N, g1, rfl, g3⟩, g4⟩)
  have hz : w.heap.size ≤ (W4.alloc (.cells #[.int .i64 0] 22)).heap.size := by simp; omega
  subst hW4
  have HBL := Lib.hid hbel
  have HZ := Lib.hid hz
  have HF := Lib.hid hf
  clear hbel k0 k1 k2 k3 hsz hz hf
  unfold GridAns
  go_enter Try.func27, Try.ntmps27
  go_wp2_with (go_at_call 77; (with_reducible refine HF.out.mono ?_); rintro y w1 ⟨u, rfl, hu, hb1⟩; have HU := Lib.hid hu; clear hu)
  go_ret2
  obtain ⟨N, n1, n2, n3⟩ := HU.out
  exact ⟨_, rfl, ⟨N, Nat.le_trans HZ.out n1, n2, n3⟩, HBL.out.trans (hb1.mono HBL.out.size)⟩

/-! What bytes tell. -/
theorem bytN_extract (s : ByteArray) (a i : Nat) (h : a + i < s.size) : bytN (s.extract a s.size) i = bytN s (a + i) := by
  unfold bytN
  rw [dif_pos h, dif_pos (by rw [ByteArray.size_extract]; omega)]
  rw [ByteArray.getElem_extract]
theorem bytN_nums (xs : List Int) (j : Nat) (h : j < xs.length) : (bytN (strOfNums xs) j : Int) = (xs.getD j 0).toNat % 256 := by
  unfold bytN
  rw [dif_pos (by rw [strOfNums_size]; exact h)]
  have : (strOfNums xs)[j]'(by rw [strOfNums_size]; exact h) = UInt8.ofNat (xs.getD j 0).toNat := by
    simp [strOfNums, List.getD, h, ByteArray.getElem_eq_getElem_data]
  rw [this]
  simp
theorem by8_bd (e : Nat) (v : Int) (i : Nat) : 0 ≤ by8 e v i ∧ by8 e v i < 256 := by
  unfold by8 byB
  split
  · omega
  · split <;> omega

theorem sign1 (n : Nat) (v : Int) (hn : (n : Int) = v % 256) (h1 : -128 ≤ v) (h2 : v < 128) : signI n (8 * 1) = v := by
  unfold signI
  rw [show (2 : Int) ^ (8 * 1) = 256 from rfl]
  split
  · rename_i g
    have g' : (128 : Int) ≤ (n : Int) := Int.ofNat_le.2 g
    clear g
    omega
  · rename_i g
    have g' : (n : Int) < (128 : Int) := Int.ofNat_lt.2 (Nat.lt_of_not_le g)
    clear g
    omega
theorem low1 (s : ByteArray) (v : Int) (b0 : (bytN s 0 : Int) = v / 1 % 256) : ((lowN s 1 : Nat) : Int) = v % 256 := by
  have e : ((lowN s 1 : Nat) : Int) = (bytN s 0 : Int) * 1 := by
    simp [lowN]
  rw [e, b0]
  clear e b0
  omega
theorem sign2 (n : Nat) (v : Int) (hn : (n : Int) = v % 65536) (h1 : -32768 ≤ v) (h2 : v < 32768) : signI n (8 * 2) = v := by
  unfold signI
  rw [show (2 : Int) ^ (8 * 2) = 65536 from rfl]
  split
  · rename_i g
    have g' : (32768 : Int) ≤ (n : Int) := Int.ofNat_le.2 g
    clear g
    omega
  · rename_i g
    have g' : (n : Int) < (32768 : Int) := Int.ofNat_lt.2 (Nat.lt_of_not_le g)
    clear g
    omega
theorem low2 (s : ByteArray) (v : Int) (b0 : (bytN s 0 : Int) = v / 1 % 256) (b1 : (bytN s 1 : Int) = v / 256 % 256) : ((lowN s 2 : Nat) : Int) = v % 65536 := by
  have e : ((lowN s 2 : Nat) : Int) = (bytN s 0 : Int) * 1 + (bytN s 1 : Int) * 256 := by
    simp [lowN]
  rw [e, b0, b1]
  clear e b0 b1
  omega
theorem high2 (s : ByteArray) (v : Int) (b0 : (bytN s 0 : Int) = v / 256 % 256) (b1 : (bytN s 1 : Int) = v / 1 % 256) : ((highN s 2 : Nat) : Int) = v % 65536 := by
  have e : ((highN s 2 : Nat) : Int) = ((bytN s 0 : Int) * 256 + (bytN s 1 : Int)) := by
    simp [highN]
  rw [e, b0, b1]
  clear e b0 b1
  omega
theorem sign3 (n : Nat) (v : Int) (hn : (n : Int) = v % 16777216) (h1 : -8388608 ≤ v) (h2 : v < 8388608) : signI n (8 * 3) = v := by
  unfold signI
  rw [show (2 : Int) ^ (8 * 3) = 16777216 from rfl]
  split
  · rename_i g
    have g' : (8388608 : Int) ≤ (n : Int) := Int.ofNat_le.2 g
    clear g
    omega
  · rename_i g
    have g' : (n : Int) < (8388608 : Int) := Int.ofNat_lt.2 (Nat.lt_of_not_le g)
    clear g
    omega
theorem low3 (s : ByteArray) (v : Int) (b0 : (bytN s 0 : Int) = v / 1 % 256) (b1 : (bytN s 1 : Int) = v / 256 % 256) (b2 : (bytN s 2 : Int) = v / 65536 % 256) : ((lowN s 3 : Nat) : Int) = v % 16777216 := by
  have e : ((lowN s 3 : Nat) : Int) = (bytN s 0 : Int) * 1 + (bytN s 1 : Int) * 256 + (bytN s 2 : Int) * 65536 := by
    simp [lowN]
  rw [e, b0, b1, b2]
  clear e b0 b1 b2
  omega
theorem high3 (s : ByteArray) (v : Int) (b0 : (bytN s 0 : Int) = v / 65536 % 256) (b1 : (bytN s 1 : Int) = v / 256 % 256) (b2 : (bytN s 2 : Int) = v / 1 % 256) : ((highN s 3 : Nat) : Int) = v % 16777216 := by
  have e : ((highN s 3 : Nat) : Int) = (((bytN s 0 : Int) * 256 + (bytN s 1 : Int)) * 256 + (bytN s 2 : Int)) := by
    simp [highN]
  rw [e, b0, b1, b2]
  clear e b0 b1 b2
  omega
theorem sign4 (n : Nat) (v : Int) (hn : (n : Int) = v % 4294967296) (h1 : -2147483648 ≤ v) (h2 : v < 2147483648) : signI n (8 * 4) = v := by
  unfold signI
  rw [show (2 : Int) ^ (8 * 4) = 4294967296 from rfl]
  split
  · rename_i g
    have g' : (2147483648 : Int) ≤ (n : Int) := Int.ofNat_le.2 g
    clear g
    omega
  · rename_i g
    have g' : (n : Int) < (2147483648 : Int) := Int.ofNat_lt.2 (Nat.lt_of_not_le g)
    clear g
    omega
theorem low4 (s : ByteArray) (v : Int) (b0 : (bytN s 0 : Int) = v / 1 % 256) (b1 : (bytN s 1 : Int) = v / 256 % 256) (b2 : (bytN s 2 : Int) = v / 65536 % 256) (b3 : (bytN s 3 : Int) = v / 16777216 % 256) : ((lowN s 4 : Nat) : Int) = v % 4294967296 := by
  have e : ((lowN s 4 : Nat) : Int) = (bytN s 0 : Int) * 1 + (bytN s 1 : Int) * 256 + (bytN s 2 : Int) * 65536 + (bytN s 3 : Int) * 16777216 := by
    simp [lowN]
  rw [e, b0, b1, b2, b3]
  clear e b0 b1 b2 b3
  omega
theorem high4 (s : ByteArray) (v : Int) (b0 : (bytN s 0 : Int) = v / 16777216 % 256) (b1 : (bytN s 1 : Int) = v / 65536 % 256) (b2 : (bytN s 2 : Int) = v / 256 % 256) (b3 : (bytN s 3 : Int) = v / 1 % 256) : ((highN s 4 : Nat) : Int) = v % 4294967296 := by
  have e : ((highN s 4 : Nat) : Int) = ((((bytN s 0 : Int) * 256 + (bytN s 1 : Int)) * 256 + (bytN s 2 : Int)) * 256 + (bytN s 3 : Int)) := by
    simp [highN]
  rw [e, b0, b1, b2, b3]
  clear e b0 b1 b2 b3
  omega
theorem getN_by8 {e : Nat} (h1 : 1 ≤ e) (h8 : e ≤ 8) (s : ByteArray) (v : Int) (hlo : -topN (bitsN e) ≤ v) (hhi : v ≤ topN (bitsN e)) (hb : ∀ i, i < wid e → (bytN s i : Int) = by8 e v i) : getN e s = v := by
  revert hlo hhi hb
  refine eightN h1 h8 (p := fun e => -topN (bitsN e) ≤ v → v ≤ topN (bitsN e) → (∀ i, i < wid e → (bytN s i : Int) = by8 e v i) → getN e s = v) ?_ ?_ ?_ ?_ ?_ ?_ ?_ ?_
  all_goals intro hlo hhi hb
  · rw [show topN (bitsN 1) = 127 from topN8] at hlo hhi
    rw [get_low 1 1 s (by decide) (by decide) rfl]
    exact sign1 _ v (low1 s v (hb 0 (by decide))) (by omega) (by omega)
  · rw [show topN (bitsN 2) = 127 from topN8] at hlo hhi
    rw [get_raised, hb 0 (by decide)]
    show (v + 128) / 1 % 256 - 128 = v
    omega
  · rw [show topN (bitsN 3) = 32767 from topN16] at hlo hhi
    rw [get_low 3 2 s (by decide) (by decide) rfl]
    exact sign2 _ v (low2 s v (hb 0 (by decide)) (hb 1 (by decide))) (by omega) (by omega)
  · rw [show topN (bitsN 4) = 32767 from topN16] at hlo hhi
    rw [get_high 4 2 s (by decide) (by decide) rfl]
    exact sign2 _ v (high2 s v (hb 0 (by decide)) (hb 1 (by decide))) (by omega) (by omega)
  · rw [show topN (bitsN 5) = 8388607 from topN24] at hlo hhi
    rw [get_low 5 3 s (by decide) (by decide) rfl]
    exact sign3 _ v (low3 s v (hb 0 (by decide)) (hb 1 (by decide)) (hb 2 (by decide))) (by omega) (by omega)
  · rw [show topN (bitsN 6) = 8388607 from topN24] at hlo hhi
    rw [get_high 6 3 s (by decide) (by decide) rfl]
    exact sign3 _ v (high3 s v (hb 0 (by decide)) (hb 1 (by decide)) (hb 2 (by decide))) (by omega) (by omega)
  · rw [show topN (bitsN 7) = 2147483647 from topN32] at hlo hhi
    rw [get_low 7 4 s (by decide) (by decide) rfl]
    exact sign4 _ v (low4 s v (hb 0 (by decide)) (hb 1 (by decide)) (hb 2 (by decide)) (hb 3 (by decide))) (by omega) (by omega)
  · rw [show topN (bitsN 8) = 2147483647 from topN32] at hlo hhi
    rw [get_high 8 4 s (by decide) (by decide) rfl]
    exact sign4 _ v (high4 s v (hb 0 (by decide)) (hb 1 (by decide)) (hb 2 (by decide)) (hb 3 (by decide))) (by omega) (by omega)

theorem bytesOf_byte {e : Nat} (h1 : 1 ≤ e) {p : Bool} {m : List (List Int)} (hc : ∀ j, j < m.length → (m.getD j []).length = cols m) {j : Nat} (hj : j < cols m * m.length * wid e) :
    (bytN (bytesOf e p m) j : Int) = by8 e (lvl (bitsN e) (smpAt m (spotAt p m.length (cols m) (j / wid e)))) (j % wid e) := by
  rw [bytesOf_L hc, ← laidL_bytes e p m.length (cols m) _ h1, bytN_nums _ _ (by simpa using hj)]
  have hg : ((List.range (cols m * m.length * wid e)).map fun j => by8 e (lvl (bitsN e) (smpAt m (spotAt p m.length (cols m) (j / wid e)))) (j % wid e)).getD j 0 = by8 e (lvl (bitsN e) (smpAt m (spotAt p m.length (cols m) (j / wid e)))) (j % wid e) := by
    simp [List.getD, hj]
  rw [hg]
  have := by8_bd e (lvl (bitsN e) (smpAt m (spotAt p m.length (cols m) (j / wid e)))) (j % wid e)
  omega
theorem bytesOf_size {e : Nat} {p : Bool} {m : List (List Int)} : (bytesOf e p m).size = m.length * cols m * wid e := by
  unfold bytesOf
  rw [laidS_size, Nat.mul_comm, Nat.mul_comm (cols m)]
theorem lvl_top {e : Nat} (h1 : 1 ≤ e) (h8 : e ≤ 8) (s : Int) : -topN (bitsN e) ≤ lvl (bitsN e) s ∧ lvl (bitsN e) s ≤ topN (bitsN e) := by
  have hb : ∀ x t : Int, 0 ≤ t → -t ≤ bnd x t ∧ bnd x t ≤ t := fun x t h => by unfold bnd; omega
  exact eightN h1 h8 (p := fun e => -topN (bitsN e) ≤ lvl (bitsN e) s ∧ lvl (bitsN e) s ≤ topN (bitsN e))
    (by rw [show topN (bitsN 1) = 127 from topN8]; exact hb _ 127 (by decide)) (by rw [show topN (bitsN 2) = 127 from topN8]; exact hb _ 127 (by decide))
    (by rw [show topN (bitsN 3) = 32767 from topN16]; exact hb _ 32767 (by decide)) (by rw [show topN (bitsN 4) = 32767 from topN16]; exact hb _ 32767 (by decide))
    (by rw [show topN (bitsN 5) = 8388607 from topN24]; exact hb _ 8388607 (by decide)) (by rw [show topN (bitsN 6) = 8388607 from topN24]; exact hb _ 8388607 (by decide))
    (by rw [show topN (bitsN 7) = 2147483647 from topN32]; exact hb _ 2147483647 (by decide)) (by rw [show topN (bitsN 8) = 2147483647 from topN32]; exact hb _ 2147483647 (by decide))

/-- What comes back of a sample. -/
theorem decV_back {e : Nat} (h1 : 1 ≤ e) (h8 : e ≤ 8) {p : Bool} {m : List (List Int)} (hc : ∀ j, j < m.length → (m.getD j []).length = cols m) {x : Nat × Nat} (hx1 : x.1 < m.length) (hx2 : x.2 < cols m) :
    decV e p m.length (cols m) (bytesOf e p m) x = smp (bitsN e) (lvl (bitsN e) (smpAt m x)) := by
  have ht := lvl_top h1 h8 (smpAt m x)
  have hpl := place_lt (p := p) hx1 hx2
  have hw : 1 ≤ wid e := by unfold wid; omega
  have hP : placeOf p m.length (cols m) x * wid e + wid e ≤ cols m * m.length * wid e := by
    calc placeOf p m.length (cols m) x * wid e + wid e = (placeOf p m.length (cols m) x + 1) * wid e := by rw [Nat.add_mul, Nat.one_mul]
      _ ≤ cols m * m.length * wid e := Nat.mul_le_mul_right _ (by rw [Nat.mul_comm (cols m)]; exact hpl)
  unfold decV
  rw [getN_by8 h1 h8 _ (lvl (bitsN e) (smpAt m x)) ht.1 ht.2 (fun i hi => ?_)]
  · congr 1
    unfold bnd; omega
  · have hsz : (bytesOf e p m).size = cols m * m.length * wid e := by rw [bytesOf_size, Nat.mul_comm m.length]
    rw [bytN_extract _ _ _ (by rw [hsz]; omega), bytesOf_byte h1 hc (by omega)]
    rw [divE hi, Nat.mul_add_mod_of_lt hi, spot_place hx1 hx2]

/-- How far a sample may be off: what the document's example of the way back tells. -/
def unitN (e : Nat) : Int := if e ≤ 2 then 65536 else if e ≤ 4 then 256 else 1
def nearP (u s r : Int) : Prop := (u = 1 → r = s) ∧ (max s (-s) < 8388607 - u → max (r - s) (-(r - s)) ≤ u / 2) ∧ okS r
theorem near8 {s : Int} (hs : okS s) : nearP 65536 s (bnd (bnd (rnd s 65536) 127 * 65536) 8388607) := by
  unfold nearP okS bnd rnd at *
  split <;> omega
theorem near16 {s : Int} (hs : okS s) : nearP 256 s (bnd (bnd (rnd s 256) 32767 * 256) 8388607) := by
  unfold nearP okS bnd rnd at *
  split <;> omega
theorem near24 {s : Int} (hs : okS s) : nearP 1 s (bnd (bnd s 8388607) 8388607) := by
  unfold nearP okS bnd at *
  omega
theorem near32 {s : Int} (hs : okS s) : nearP 1 s (bnd (rnd (bnd (s * 256) 2147483647) 256) 8388607) := by
  have h : bnd (s * 256) 2147483647 = s * 256 := by unfold okS bnd at *; omega
  rw [h]
  unfold nearP okS bnd rnd at *
  split <;> omega
theorem near {e : Nat} (h1 : 1 ≤ e) (h8 : e ≤ 8) {s : Int} (hs : okS s) : nearP (unitN e) s (smp (bitsN e) (lvl (bitsN e) s)) :=
  eightN h1 h8 (p := fun e => nearP (unitN e) s (smp (bitsN e) (lvl (bitsN e) s))) (near8 hs) (near8 hs) (near16 hs) (near16 hs) (near24 hs) (near24 hs) (near32 hs) (near32 hs)
end Go.Proofs.Ytegomicpolnpoaa
