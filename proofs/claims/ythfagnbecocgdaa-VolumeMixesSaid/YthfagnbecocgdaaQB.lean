/- Mixing: blocks joined sample by sample. -/
import Derived.Test.YthfagnbecocgdaaQA
import Derived.Test.YthfagnbecocgdaaRJ
namespace Go.Proofs.Ythfagnbecocgdaa
open Go.RowKit Go.Shelf Go.Deep

theorem Gr.rd {N r k : Nat} {V : Nat → Nat → Int} {W : World} {c f : Nat} (h : Gr N r k (rdF V c f) W) (hc : c < r) : Gr N r k (rdF V c (f + 1)) (W.setCell ⟨N + 1 + c, f, none⟩ (.int .i64 (V c f))) := by
  refine (h.set hc f _).congr fun j x hj hx => ?_
  unfold rdF
  by_cases e : j = c ∧ x = f
  · obtain ⟨rfl, rfl⟩ := e; simp
  · rw [if_neg e]
    by_cases e2 : j < c ∨ (j = c ∧ x < f)
    · rw [if_pos e2, if_pos (by omega)]
    · rw [if_neg e2, if_neg (by omega)]
theorem Gr.new {B N r c : Nat} {F : Nat → Nat → Int} {W : World} (h : Gr N r c F W) (hB : B ≤ N) (hr : r ≤ 8) (hc : c ≤ 4096) (hF : ∀ j i, j < r → i < c → I64 (F j i)) : MatNew B W (tabM r c F) (.slice (some ⟨N, 0, none⟩) r r) := fun w' he => by
  have hlt : ∀ k, N ≤ k → k ≤ N + r → k < W.heap.size := fun k h1 h2 => by
    by_cases e : k = N
    · subst e; exact h.top.lt
    · have := (h.rows (k - N - 1) (by omega)).lt
      rwa [show N + 1 + (k - N - 1) = k by omega] at this
  exact (h.of_block fun k h1 h2 => he k (by omega) (hlt k h1 h2)).mat hr hc hF

/-- The samples at one place; their sum, bounded. -/
def placeL (l : List (List (List Int))) (c i : Nat) : List Int := (List.range l.length).map fun j => cellM (l.getD j []) c i
def mixV (l : List (List (List Int))) (c i : Nat) : Int := bnd (sumL (placeL l c i) l.length) 8388607
def mixM (l : List (List (List Int))) : List (List Int) := tabM (l.getD 0 []).length (cols (l.getD 0 [])) (mixV l)
theorem placeL_len (l : List (List (List Int))) (c i : Nat) : (placeL l c i).length = l.length := by simp [placeL]
theorem placeL_at {l : List (List (List Int))} {c i k : Nat} (h : k < l.length) : (placeL l c i).getD k 0 = cellM (l.getD k []) c i := by simp [placeL, List.getD, h]
theorem placeL_bd {l : List (List (List Int))} (hV : allV l = true) (c i k : Nat) : -8388607 ≤ (placeL l c i).getD k 0 ∧ (placeL l c i).getD k 0 ≤ 8388607 := by
  by_cases h : k < l.length
  · rw [placeL_at h]
    have := cell_abs (all_at' (d := []) hV h) c i
    unfold cellM
    omega
  · rw [show (placeL l c i).getD k 0 = 0 by simp [List.getD, List.getElem?_eq_none (show (placeL l c i).length ≤ k by rw [placeL_len]; omega)]]
    omega
theorem alike_at {l : List (List (List Int))} (h : alike l = true) {k : Nat} (hk : k < l.length) : (l.getD k []).length = (l.getD 0 []).length ∧ cols (l.getD k []) = cols (l.getD 0 []) := by
  have := all_at' (d := []) h hk
  simpa [likeB] using this
theorem row_of_rowIs {w : World} {b n : Nat} {G : Nat → Int} (h : w.rowIs b 3 n (fun j => .int .i64 (G j))) (hn : n ≤ 4096) (L : List Int) (hL : L.length = n) (hG : ∀ j, j < n → L.getD j 0 = G j ∧ I64 (G j)) : RowIn w L (.slice (some ⟨b, 0, none⟩) n n) := by
  refine ⟨some ⟨b, 0, none⟩, n, by rw [hL], fun i hi => ?_, by omega, by omega⟩
  rw [hL] at hi
  rw [(hG i hi).1]
  exact ⟨b, 0, rfl, by rw [Nat.zero_add]; exact h.cell hi, (hG i hi).2⟩

set_option maxHeartbeats 8000000 in
set_option maxRecDepth 100000 in
theorem joined_any (l : List (List (List Int))) (v : Value) (w : World) (hv : BlksIn w l v) (hV : allV l = true) (hA : alike l = true) (h0 : 0 < l.length) (h40 : l.length ≤ 40) :
    Calls Try.prog 97 #[v, .func (.func 98) #[] #[]] w (NewRet w (mixM l)) := by
  obtain ⟨a, ca, rfl, hin0, hal, _⟩ := hv
  have HIN := Lib.hid (fun (x : World) (hx : Below w.heap.size w x) (i : Nat) (hi : i < l.length) => show ∃ b off u, a = some ⟨b, off, none⟩ ∧ x.cell? ⟨b, off + i, none⟩ = some u ∧ MatIn x (l.getD i []) u from by
    obtain ⟨b, off, u, h1, h2, h3⟩ := hin0 i hi
    exact ⟨b, off, u, h1, (Same.of_below hx).cell h2, h3.mono (Same.of_below hx)⟩)
  have HSZ : Hid (∀ k, k < l.length → (l.getD k []).length = (l.getD 0 []).length ∧ ∀ c, c < (l.getD 0 []).length → ((l.getD k []).getD c []).length = cols (l.getD 0 [])) := Lib.hid fun k hk => by
    obtain ⟨e1, e2⟩ := alike_at hA hk
    obtain ⟨_, _, _, hrow⟩ := validB_parts (all_at' (d := []) hV hk)
    exact ⟨e1, fun c hc => by rw [hrow c (by omega), e2]⟩
  obtain ⟨p1, p8, pc, _⟩ := validB_parts (all_at' (d := []) hV h0)
  have HM11 : Hid (∀ (c i : Nat) (x : World) (v : Value), RowIn x (placeL l c i) v → Calls Try.prog 98 #[v] x fun e w' => e = .returned (.int .i64 (mixV l c i)) ∧ x = w') := Lib.hid fun c i x v hx => by
    have := mix11_any (placeL l c i) v x hx (by rw [placeL_len]; exact h40) (placeL_bd hV c i)
    rw [placeL_len] at this
    exact this
  have HPL : Hid (∀ c i j, j < l.length → (placeL l c i).getD j 0 = cellM (l.getD j []) c i ∧ I64 (cellM (l.getD j []) c i)) := Lib.hid fun c i j hj => by
    have h1 := placeL_at (c := c) (i := i) hj
    have h2 := placeL_bd hV c i j
    rw [h1] at h2
    exact ⟨h1, by unfold I64; omega⟩
  have hcf : ∀ (args : Array Value) (w : World), (callFunc 98 args).run Try.prog w = .ok (.enter 98 args) w := enters_of Try.func98 (by kernel_rfl) rfl
  have hFB : ∀ j i, j < (l.getD 0 []).length → i < cols (l.getD 0 []) → I64 (mixV l j i) := fun j i _ _ => by unfold mixV bnd I64; omega
  have hres : ∀ N W, w.heap.size ≤ N → Gr N (l.getD 0 []).length (cols (l.getD 0 [])) (mixV l) W → MatNew w.heap.size W (mixM l) (.slice (some ⟨N, 0, none⟩) (l.getD 0 []).length (l.getD 0 []).length) := fun N W hN hg => hg.new hN p8 pc hFB
  have HRES := Lib.hid hres
  have hlen := fun c i => placeL_len l c i
  have HLEN := Lib.hid hlen
  obtain ⟨b0, o0, u0, rfl, hc0, hu0⟩ := hin0 0 h0
  obtain ⟨m0, hm0⟩ : ∃ m0, l.getD 0 [] = m0 := ⟨_, rfl⟩
  rw [hm0] at HSZ HRES p1 p8 pc hu0
  obtain ⟨a1, c1, rfl, hin1, _, _⟩ := hu0
  obtain ⟨b2, o2, u2, rfl, hc2, hu2⟩ := hin1 0 (by omega)
  obtain ⟨a3, c3, rfl, _, _, _⟩ := hu2
  change w.cell? _ = some (.slice a3 (cols m0) c3) at hc2
  simp only [Nat.add_zero] at hc0 hc2
  obtain ⟨C, hC⟩ : ∃ C, cols m0 = C := ⟨_, rfl⟩
  obtain ⟨R, hR⟩ : ∃ R, m0.length = R := ⟨_, rfl⟩
  rw [hC] at HSZ HRES pc hc2
  rw [hR] at HSZ HRES p1 p8 hc0
  generalize mixM l = M at *
  generalize hVV : mixV l = V at *
  have h114 := fun x => silent_gr (r := R) (c := C) p1 p8 pc x
  have H114 := Lib.hid h114
  have HS : Hid (∀ x, Below w.heap.size w x → (x.cell? ⟨b0, o0, none⟩ = some (.slice (some ⟨b2, o2, none⟩) R c1) ∧ x.cell? ⟨b2, o2, none⟩ = some (.slice a3 C c3)) ∧ Below w.heap.size w x) := Lib.hid fun x hx => ⟨⟨(Same.of_below hx).cell hc0, (Same.of_below hx).cell hc2⟩, hx⟩
  have i0 : (0 : Int) < (l.length : Int) := by omega
  have iR : (0 : Int) < (R : Int) := by omega
  have iRN : 0 < R := by omega
  clear hin0 hin1 hV hA hFB hres hlen hVV hm0 hC hR hc0 hc2 h114
  go_enter Try.func97, Try.ntmps97
  go_upto_region 1 with fail
  refine region_T (S := fun x => (x.cell? ⟨b0, o0, none⟩ = some (.slice (some ⟨b2, o2, none⟩) R c1) ∧ x.cell? ⟨b2, o2, none⟩ = some (.slice a3 C c3)) ∧ Below w.heap.size w x) [] (by kernel_rfl) (HS.out _ (Below.refl _ _).drew) (fun _ => ?_)
  have hS0 := HS.out _ (Below.drew (Below.refl w.heap.size w))
  have hWs : w.heap.size ≤ w.drew.heap.size := Nat.le_refl _
  obtain ⟨W, hW⟩ : ∃ W, w.drew = W := ⟨_, rfl⟩
  rw [hW] at hS0 hWs ⊢
  clear hW
  refine anyT_take (i := 0) (v := ?_) rfl (by kernel_rfl) (by kernel_rfl) (by kernel_rfl) (by kernel_rfl) (fun _ _ _ h => h) (Or.inl ⟨by rfl, ?_⟩) hS0 ?_
  rotate_left
  focus ((intro wq hSw; obtain ⟨⟨q0, q1⟩, _⟩ := hSw; go_simp); try with_reducible rfl)
  try simp only [Act.put, List.getElem_toArray, List.getElem_cons_succ, List.getElem_cons_zero, List.setIfInBounds_toArray, List.set_cons_zero, List.set_cons_succ]
  refine anyT_take (i := 1) (v := ?_) rfl (by kernel_rfl) (by kernel_rfl) (by kernel_rfl) (by kernel_rfl) (fun _ _ _ h => h) (Or.inl ⟨by rfl, ?_⟩) hS0 ?_
  rotate_left
  focus ((intro wq hSw; obtain ⟨⟨q0, q1⟩, _⟩ := hSw; go_simp); try with_reducible rfl)
  try simp only [Act.put, List.getElem_toArray, List.getElem_cons_succ, List.getElem_cons_zero, List.setIfInBounds_toArray, List.set_cons_zero, List.set_cons_succ]
  refine anyT_take (i := 2) (v := ?_) rfl (by kernel_rfl) (by kernel_rfl) (by kernel_rfl) (by kernel_rfl) (fun _ _ _ h => h) (Or.inl ⟨by rfl, ?_⟩) hS0 ?_
  rotate_left
  focus ((intro wq hSw; obtain ⟨⟨q0, q1⟩, _⟩ := hSw; go_simp); try with_reducible rfl)
  try simp only [Act.put, List.getElem_toArray, List.getElem_cons_succ, List.getElem_cons_zero, List.setIfInBounds_toArray, List.set_cons_zero, List.set_cons_succ]
  refine anyT_take (i := 3) (v := ?_) rfl (by kernel_rfl) (by kernel_rfl) (by kernel_rfl) (by kernel_rfl) (fun _ _ _ h => h) (Or.inl ⟨by rfl, ?_⟩) hS0 ?_
  rotate_left
  focus ((intro wq hSw; obtain ⟨⟨q0, q1⟩, _⟩ := hSw; go_simp); try with_reducible rfl)
  try simp only [Act.put, List.getElem_toArray, List.getElem_cons_succ, List.getElem_cons_zero, List.setIfInBounds_toArray, List.set_cons_zero, List.set_cons_succ]
  refine anyT_take (i := 4) (v := ?_) rfl (by kernel_rfl) (by kernel_rfl) (by kernel_rfl) (by kernel_rfl) (fun _ _ _ h => h) (Or.inl ⟨by rfl, ?_⟩) hS0 ?_
  rotate_left
  focus ((intro wq hSw; obtain ⟨⟨q0, q1⟩, _⟩ := hSw; go_simp); try with_reducible rfl)
  try simp only [Act.put, List.getElem_toArray, List.getElem_cons_succ, List.getElem_cons_zero, List.setIfInBounds_toArray, List.set_cons_zero, List.set_cons_succ]
  refine anyT_take (i := 5) (v := ?_) rfl (by kernel_rfl) (by kernel_rfl) (by kernel_rfl) (by kernel_rfl) (fun _ _ _ h => h) (Or.inl ⟨by rfl, ?_⟩) hS0 ?_
  rotate_left
  focus ((intro wq hSw; obtain ⟨⟨q0, q1⟩, _⟩ := hSw; go_simp); try with_reducible rfl)
  try simp only [Act.put, List.getElem_toArray, List.getElem_cons_succ, List.getElem_cons_zero, List.setIfInBounds_toArray, List.set_cons_zero, List.set_cons_succ]
  refine anyT_take (i := 6) (v := ?_) rfl (by kernel_rfl) (by kernel_rfl) (by kernel_rfl) (by kernel_rfl) (fun _ _ _ h => h) (Or.inl ⟨by rfl, ?_⟩) hS0 ?_
  rotate_left
  focus ((intro wq hSw; obtain ⟨⟨q0, q1⟩, _⟩ := hSw; go_simp); try with_reducible rfl)
  try simp only [Act.put, List.getElem_toArray, List.getElem_cons_succ, List.getElem_cons_zero, List.setIfInBounds_toArray, List.set_cons_zero, List.set_cons_succ]
  refine anyT_take (i := 7) (v := ?_) rfl (by kernel_rfl) (by kernel_rfl) (by kernel_rfl) (by kernel_rfl) (fun _ _ _ h => h) (Or.inl ⟨by rfl, ?_⟩) hS0 ?_
  rotate_left
  focus ((intro wq hSw; obtain ⟨⟨q0, q1⟩, _⟩ := hSw; go_simp); try with_reducible rfl)
  try simp only [Act.put, List.getElem_toArray, List.getElem_cons_succ, List.getElem_cons_zero, List.setIfInBounds_toArray, List.set_cons_zero, List.set_cons_succ]
  refine anyT_take (i := 8) (v := ?_) rfl (by kernel_rfl) (by kernel_rfl) (by kernel_rfl) (by kernel_rfl) (fun _ _ _ h => h) (Or.inl ⟨by rfl, ?_⟩) hS0 ?_
  rotate_left
  focus ((intro wq hSw; obtain ⟨⟨q0, q1⟩, _⟩ := hSw; go_simp); try with_reducible rfl)
  try simp only [Act.put, List.getElem_toArray, List.getElem_cons_succ, List.getElem_cons_zero, List.setIfInBounds_toArray, List.set_cons_zero, List.set_cons_succ]
  refine anyT_take (i := 9) (v := ?_) rfl (by kernel_rfl) (by kernel_rfl) (by kernel_rfl) (by kernel_rfl) (fun _ _ _ h => h) (Or.inl ⟨by rfl, ?_⟩) hS0 ?_
  rotate_left
  focus ((intro wq hSw; obtain ⟨⟨q0, q1⟩, _⟩ := hSw; go_simp); try with_reducible rfl)
  try simp only [Act.put, List.getElem_toArray, List.getElem_cons_succ, List.getElem_cons_zero, List.setIfInBounds_toArray, List.set_cons_zero, List.set_cons_succ]
  refine anyT_one (i := 10) (by kernel_rfl) rfl (fun K hK => ?_)
  go_simp
  refine (H114.out _).mono ?_
  rintro e w1 ⟨rfl, hg, hb⟩
  have hS1 := HS.out _ (Below.then hS0.2 (Nat.le_refl _) hb)
  have HG := Lib.hid hg
  have hN := hWs
  have hsz1 := hb.size
  obtain ⟨N, hNe⟩ : ∃ N, W.heap.size = N := ⟨_, rfl⟩
  rw [hNe] at HG hN hsz1 ⊢
  clear hg hb hNe hS0 hWs
  refine hK.out _ _ (fun _ => hS1) ?_
  clear hK K
  try simp only [Act.put, List.getElem_toArray, List.getElem_cons_succ, List.getElem_cons_zero, List.setIfInBounds_toArray, List.set_cons_zero, List.set_cons_succ]
  refine anyT_take (i := 11) (v := ?_) rfl (by kernel_rfl) (by kernel_rfl) (by kernel_rfl) (by kernel_rfl) (fun _ _ _ h => h) (Or.inl ⟨by rfl, ?_⟩) hS1 ?_
  rotate_left
  focus ((intro wq hSw; obtain ⟨⟨q0, q1⟩, _⟩ := hSw; go_simp); try with_reducible rfl)
  try simp only [Act.put, List.getElem_toArray, List.getElem_cons_succ, List.getElem_cons_zero, List.setIfInBounds_toArray, List.set_cons_zero, List.set_cons_succ]
  refine anyT_take (i := 12) (v := ?_) rfl (by kernel_rfl) (by kernel_rfl) (by kernel_rfl) (by kernel_rfl) (fun _ _ _ h => h) (Or.inl ⟨by rfl, ?_⟩) hS1 ?_
  rotate_left
  focus ((intro wq hSw; obtain ⟨⟨q0, q1⟩, _⟩ := hSw; go_simp); try with_reducible rfl)
  try simp only [Act.put, List.getElem_toArray, List.getElem_cons_succ, List.getElem_cons_zero, List.setIfInBounds_toArray, List.set_cons_zero, List.set_cons_succ]
  refine anyT_take (i := 13) (v := ?_) rfl (by kernel_rfl) (by kernel_rfl) (by kernel_rfl) (by kernel_rfl) (fun _ _ _ h => h) (Or.inl ⟨by rfl, ?_⟩) hS1 ?_
  rotate_left
  focus ((intro wq hSw; obtain ⟨⟨q0, q1⟩, _⟩ := hSw; go_simp); try with_reducible rfl)
  try simp only [Act.put, List.getElem_toArray, List.getElem_cons_succ, List.getElem_cons_zero, List.setIfInBounds_toArray, List.set_cons_zero, List.set_cons_succ]
  refine anyT_take (i := 14) (v := ?_) rfl (by kernel_rfl) (by kernel_rfl) (by kernel_rfl) (by kernel_rfl) (fun _ _ _ h => h) (Or.inl ⟨by rfl, ?_⟩) hS1 ?_
  rotate_left
  focus ((intro wq hSw; obtain ⟨⟨q0, q1⟩, _⟩ := hSw; go_simp); try with_reducible rfl)
  try simp only [Act.put, List.getElem_toArray, List.getElem_cons_succ, List.getElem_cons_zero, List.setIfInBounds_toArray, List.set_cons_zero, List.set_cons_succ]
  refine anyT_take (i := 15) (v := ?_) rfl (by kernel_rfl) (by kernel_rfl) (by kernel_rfl) (by kernel_rfl) (fun _ _ _ h => h) (Or.inl ⟨by rfl, ?_⟩) hS1 ?_
  rotate_left
  focus ((intro wq hSw; obtain ⟨⟨q0, q1⟩, _⟩ := hSw; go_simp); try with_reducible rfl)
  try simp only [Act.put, List.getElem_toArray, List.getElem_cons_succ, List.getElem_cons_zero, List.setIfInBounds_toArray, List.set_cons_zero, List.set_cons_succ]
  refine anyT_done (by kernel_rfl) ?_ _
  have hmk := run_make_row' (P := Try.prog) 40 3 (.int .i64 0) 8 Try.underlying40 Try.info3 rfl .i64 .i64 l.length (by omega) (by omega)
  have HB1 := Lib.hid hS1.2
  clear hS1
  go_wp2_with fail
  clear hmk
  have hg2 := HG.out.alloc (.cells (madeCells #[.int .i64 0] l.length) 3)
  have hrow := World.rowIs_made w1 (.int .i64 0) l.length 3
  have hb2 := HB1.out.alloc HB1.out.size (.cells (madeCells #[.int .i64 0] l.length) 3)
  obtain ⟨SB, hSB⟩ : ∃ SB, w1.heap.size = SB := ⟨_, rfl⟩
  have hNS : N + R < SB := by
    have := (HG.out.rows (R - 1) (by omega)).lt
    omega
  rw [hSB] at hrow ⊢
  generalize w1.alloc (.cells (madeCells #[.int .i64 0] l.length) 3) = W2 at *
  clear HB1 hSB hsz1
  go_loopw [32] (fun p wr => ∃ c : Nat, p = .int .i64 c ∧ c ≤ R ∧ Gr N R C (rdF V c 0) wr ∧ (∃ G : Nat → Int, wr.rowIs SB 3 l.length (fun j => .int .i64 (G j))) ∧ Below w.heap.size w wr) (fun p _ => R - (intOf p).toNat)
  case atStart => exact ⟨0, rfl, Nat.zero_le _, hg2.congr fun j x _ _ => by simp [rdF], ⟨_, hrow⟩, hb2⟩
  case round =>
    clear hg2 hrow hb2 HG
    obtain ⟨c, rfl, hc, hgr, hrow, hbl⟩ := hrel
    by_cases hlt : c < R
    · have wc : (c : Int) < (R : Int) := by omega
      have hct := hgr.top.cell hlt
      rw [show topZ N C R c = .slice (some ⟨N + 1 + c, 0, none⟩) C C by simp [topZ, hlt]] at hct
      go_wp2_with fail
      clear hct
      obtain ⟨wo, rfl⟩ : ∃ wo : World, wo = wr := ⟨_, rfl⟩
      go_loopw [39] (fun p wr => ∃ f : Nat, p = .int .i64 f ∧ f ≤ C ∧ Gr N R C (rdF V c f) wr ∧ (∃ G : Nat → Int, wr.rowIs SB 3 l.length (fun j => .int .i64 (G j))) ∧ Below w.heap.size w wr) (fun p _ => C - (intOf p).toNat)
      case atStart => exact ⟨0, rfl, Nat.zero_le _, hgr, hrow, hbl⟩
      case round =>
        clear hgr hrow hbl
        obtain ⟨f, rfl, hf, hgr, hrow, hbl⟩ := hrel
        by_cases hltf : f < C
        · have wf : (f : Int) < (C : Int) := by omega
          go_wp2_with fail
          obtain ⟨wo2, rfl⟩ : ∃ wo2 : World, wo2 = wr := ⟨_, rfl⟩
          go_loopw [44] (fun p wr => ∃ k : Nat, p = .int .i64 k ∧ k ≤ l.length ∧ Gr N R C (rdF V c f) wr ∧ (∃ G : Nat → Int, wr.rowIs SB 3 l.length (fun j => .int .i64 (G j)) ∧ ∀ j, j < k → G j = cellM (l.getD j []) c f) ∧ Below w.heap.size w wr) (fun p _ => l.length - (intOf p).toNat)
          case atStart =>
            obtain ⟨G, hG⟩ := hrow
            exact ⟨0, rfl, Nat.zero_le _, hgr, ⟨G, hG, fun j hj => absurd hj (Nat.not_lt_zero _)⟩, hbl⟩
          case round =>
            clear hgr hrow hbl
            obtain ⟨k, rfl, hk, hgr, ⟨G, hG, hGk⟩, hbl⟩ := hrel
            by_cases hltk : k < l.length
            · have wk : (k : Int) < (l.length : Int) := by omega
              obtain ⟨_, _, uk, e1, hck, huk⟩ := HIN.out wr hbl k hltk
              simp only [Option.some.injEq, Addr.mk.injEq, and_true] at e1
              obtain ⟨rfl, rfl⟩ := e1
              obtain ⟨s1, s2⟩ := HSZ.out k hltk
              have s2 := s2 c hlt
              have hval : (((l.getD k []).getD c []).getD f 0) = cellM (l.getD k []) c f := rfl
              obtain ⟨mk, hmk⟩ : ∃ mk, l.getD k [] = mk := ⟨_, rfl⟩
              rw [hmk] at huk s1 s2 hval
              obtain ⟨ak, ck, rfl, hink, _, _⟩ := huk
              obtain ⟨bk, ok, uc, rfl, hcc, huc⟩ := hink c (by omega)
              obtain ⟨rc, hrc⟩ : ∃ rc, mk.getD c [] = rc := ⟨_, rfl⟩
              rw [hrc] at huc s2 hval
              obtain ⟨ac, cc, rfl, hinc, _, _⟩ := huc
              obtain ⟨bc, oc, rfl, hcf2, _⟩ := hinc f (by omega)
              rw [s1] at hck
              rw [s2] at hcc
              obtain ⟨s, hs⟩ : ∃ s, rc.getD f 0 = s := ⟨_, rfl⟩
              rw [hs] at hcf2 hval
              have hz := hG.frozen k
              have hcG := hG.cell hltk
              have hgr2 : Gr N R C (rdF V c f) (wr.setCell ⟨SB, k, none⟩ (.int .i64 s)) := hgr.of_block fun q h1 h2 => blk_setCell_other _ _ _ _ (by show q ≠ SB; omega)
              have hrow2 : (wr.setCell ⟨SB, k, none⟩ (.int .i64 s)).rowIs SB 3 l.length (fun j => .int .i64 (if j = k then s else G j)) := (hG.set k _).congr fun j _ => by by_cases e : j = k <;> simp [e]
              have HF := Lib.hid (And.intro hgr2 (And.intro hrow2 (hbl.setCell (p := ⟨SB, k, none⟩) (by show w.heap.size ≤ SB; omega) (.int .i64 s))))
              have HGK := Lib.hid (show ∀ j, j < k + 1 → (if j = k then s else G j) = cellM (l.getD j []) c f from fun j hj => by
                by_cases e : j = k
                · subst e; rw [if_pos rfl, hmk, hval]
                · rw [if_neg e]; exact hGk j (by omega))
              clear hgr2 hrow2 hGk hval hs hmk hrc hink hinc s1 s2 hgr hG hbl
              go_wp2_with fail
              go_roundw
              case rel => exact ⟨k + 1, by go_num, by omega, HF.out.1, ⟨_, HF.out.2.1, HGK.out⟩, HF.out.2.2⟩
              case measure => simp [intOf]; omega
            · have wk : ¬ (k : Int) < (l.length : Int) := by omega
              obtain rfl : k = l.length := by omega
              have hri := row_of_rowIs hG (by omega) (placeL l c f) (HLEN.out c f) fun j hj => by
                have := HPL.out c f j hj
                rw [hGk j hj]; exact this
              have h98 := HM11.out c f wr _ hri
              have hst := hgr.rd hlt (f := f)
              have hcN := (hgr.rows c hlt).cell hltf
              have hzN := (hgr.rows c hlt).frozen f
              obtain ⟨x, hx⟩ : ∃ x, V c f = x := ⟨_, rfl⟩
              rw [hx] at h98 hst
              have hrow2 : (wr.setCell ⟨N + 1 + c, f, none⟩ (.int .i64 x)).rowIs SB 3 l.length (fun j => .int .i64 (G j)) := hG.setOther (by show SB ≠ N + 1 + c; omega) _
              have HF := Lib.hid (And.intro hst (And.intro hrow2 (hbl.setCell (p := ⟨N + 1 + c, f, none⟩) (by show w.heap.size ≤ N + 1 + c; omega) (.int .i64 x))))
              clear hst hrow2 hgr hG hGk hbl hri hx
              go_wp2_with fail
              refine h98.mono ?_
              rintro e wz ⟨rfl, rfl⟩
              go_wp2_with fail
              go_roundw
              case rel => exact ⟨f + 1, by go_num, by omega, HF.out.1, ⟨_, HF.out.2.1⟩, HF.out.2.2⟩
              case measure => simp [intOf]; omega
        · have wf : ¬ (f : Int) < (C : Int) := by omega
          obtain rfl : f = C := by omega
          have HF := Lib.hid (And.intro hgr (And.intro hrow hbl))
          clear hgr hrow hbl
          go_wp2_with fail
          go_roundw
          case rel => exact ⟨c + 1, by go_num, by omega, HF.out.1.congr (fun j x _ hx => by
            unfold rdF
            by_cases e : j < c ∨ (j = c ∧ x < f)
            · rw [if_pos e, if_pos (by omega)]
            · rw [if_neg e, if_neg (by omega)]), HF.out.2.1, HF.out.2.2⟩
          case measure => simp [intOf]; omega
    · have wc : ¬ (c : Int) < (R : Int) := by omega
      obtain rfl : c = R := by omega
      have hm := HRES.out N wr hN (hgr.congr fun j x hj _ => by unfold rdF; rw [if_pos (Or.inl hj)])
      have HM := Lib.hid hm
      have HBL := Lib.hid hbl
      clear hm hgr hrow hbl
      go_wp2_with fail
      go_ret
      exact ⟨_, rfl, HM.out, HBL.out⟩
end Go.Proofs.Ythfagnbecocgdaa
