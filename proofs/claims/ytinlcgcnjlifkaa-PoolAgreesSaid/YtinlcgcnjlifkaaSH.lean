/- Where the last block of a deal ends. -/
import Derived.Test.YtinlcgcnjlifkaaSG
namespace Go.Proofs.Ytinlcgcnjlifkaa
open Go.RowKit Go.Shelf Go.Deep
attribute [local go_sem] Oper.semAt_some

structure DealP where
  c : Nat
  b : Nat
  z : Int
  s : Int
  a : Int
  k : Int
abbrev DealP.v (d : DealP) : Value := .agg #[.int .i64 d.c, .int .i64 d.b, .int .i64 d.z, .int .i64 d.s, .int .i64 d.a, .int .i64 d.k]
abbrev DealP.o (d : DealP) : Obj := .cells #[.int .i64 d.c, .int .i64 d.b, .int .i64 d.z, .int .i64 d.s, .int .i64 d.a, .int .i64 d.k] 43
structure DealP.In (d : DealP) : Prop where
  c : 1 ≤ d.c ∧ d.c ≤ 64
  b : 1 ≤ d.b ∧ d.b ≤ 8
  z : 1 ≤ d.z ∧ d.z ≤ 65536
  a : 1 ≤ d.a ∧ d.a ≤ 256
set_option maxRecDepth 100000 in
theorem laid31_any (d : DealP) (at' : Int) (w : World) : Calls Try.prog 31 #[d.v, .int .i64 at'] w fun e w' => e = .returned (.func (.func 50) #[] #[at0 (w.heap.size + 1), at0 w.heap.size]) ∧ w' = (w.alloc d.o).alloc (.cells #[.int .i64 at'] 3) := by
  have hmf := makes
  go_enter Try.func31, Try.ntmps31
  go_wp2_with fail
  go_ret
  exact ⟨rfl, rfl⟩
theorem dealAt_new (d : DealP) (w : World) : DealAt w.heap.size d.c d.b d.z d.a (w.alloc d.o) := by
  have h := blk_alloc_new w d.o
  refine ⟨?_, ?_, ?_, ?_⟩ <;> (unfold World.cell?; rw [h]; rfl)
theorem DealAt.keep {Bd c b : Nat} {sz al : Int} {X Y : World} (h : DealAt Bd c b sz al X) (hk : Y.heap[Bd]? = X.heap[Bd]?) : DealAt Bd c b sz al Y :=
  ⟨(World.cell?_of_block (a := ⟨Bd, 0, none⟩) hk).trans h.1, (World.cell?_of_block (a := ⟨Bd, 1, none⟩) hk).trans h.2.1, (World.cell?_of_block (a := ⟨Bd, 2, none⟩) hk).trans h.2.2.1, (World.cell?_of_block (a := ⟨Bd, 4, none⟩) hk).trans h.2.2.2⟩
/-- What the rounds of 'end' keep. -/
structure EndI (d : DealP) (at' : Int) (N0 : Nat) (w : World) (k : Nat) (W : World) : Prop where
  own : DealAt N0 d.c d.b d.z d.a W
  last : Boxed W (N0 + 1) 3 (.int .i64 (endK at' d.z d.a k))
  bel : Below w.heap.size w W
  n : w.heap.size = N0
theorem EndI.far {d : DealP} {at' : Int} {N0 : Nat} {w X Y : World} {k : Nat} {row : Option Nat} (h : EndI d at' N0 w k X) (hg : X.grownBy Y row) (hr : ∀ r, row = some r → N0 + 2 ≤ r) : EndI d at' N0 w k Y := by
  have hlt0 : N0 < X.heap.size := by have := cell_lt h.own.1; exact this
  have hlt1 : N0 + 1 < X.heap.size := (Array.getElem?_eq_some_iff.1 h.last).1
  refine ⟨h.own.keep (hg.block _ hlt0 (fun e => by have := hr _ e.symm; omega)), (hg.block _ hlt1 (fun e => by have := hr _ e.symm; omega)).trans h.last, ?_, h.n⟩
  exact h.bel.grown hg h.bel.size (fun r e => by have := hr r e; have := h.n; omega)
set_option maxHeartbeats 4000000 in
set_option maxRecDepth 100000 in
theorem end_any (d : DealP) (h : d.In) (at' : Int) (hat : 0 ≤ at' ∧ at' ≤ 1000000000) (w : World) : Calls Try.prog 32 #[d.v, .int .i64 at'] w fun e w' => e = .returned (.int .i64 (endK at' d.z d.a (d.c * d.b))) ∧ Below w.heap.size w w' := by
  have HIN := Lib.hid h
  have HAT := Lib.hid hat
  have HL := Lib.hid (laid31_any d at')
  obtain ⟨N0, hN0⟩ : ∃ N0, w.heap.size = N0 := ⟨_, rfl⟩
  refine (callsIn_wide (n := 9)).1 ?_
  refine callsIn_of_wp_marks Try.func32 rfl trivial ?_ rfl
  simp only [Try.ntmps32, List.size_toArray, List.length_cons, List.length_nil, Nat.reduceAdd, Nat.reduceSub, Array.replicate_succ, Array.replicate_zero, List.push_toArray, List.append_toArray, List.nil_append, List.cons_append]
  gi_wp2
  obtain ⟨W2, hW2⟩ : ∃ W2, (w.alloc d.o).alloc (.cells #[.int .i64 at'] 3) = W2 := ⟨_, rfl⟩
  have hsz2 : W2.heap.size = N0 + 2 := by rw [← hW2]; simp [hN0]
  have hown : DealAt N0 d.c d.b d.z d.a W2 := by
    rw [← hW2, ← hN0]
    exact (dealAt_new d w).keep (blk_alloc_lt _ _ _ (by simp))
  have hlast : Boxed W2 (N0 + 1) 3 (.int .i64 at') := by
    rw [← hW2]
    have := Boxed.new (w.alloc d.o) 3 (.int .i64 at')
    rwa [show (w.alloc d.o).heap.size = N0 + 1 by simp [hN0]] at this
  have hb2 : Below w.heap.size w W2 := by rw [← hW2]; exact ((Below.refl _ w).alloc (Nat.le_refl _) _).alloc (by simp) _
  refine ⟨trivial, (callsIn_wide.2 (HL.out _)).mono ?_⟩
  rintro e w3 ⟨rfl, hw3⟩
  rw [hW2] at hw3
  obtain ⟨W0, hW0⟩ : ∃ W0, (W2.alloc d.o).alloc (.cells #[.int .i64 at'] 3) = W0 := ⟨_, rfl⟩
  rw [hW0] at hw3
  rw [hw3, hW2, hsz2]
  clear hw3 w3
  have hsz0 : W0.heap.size = N0 + 4 := by rw [← hW0]; simp [hsz2]
  have hcopy : DealAt (N0 + 2) d.c d.b d.z d.a W0 := by
    rw [← hW0, ← hsz2]
    exact (dealAt_new d W2).keep (blk_alloc_lt _ _ _ (by simp))
  have hatc : W0.cell? ⟨N0 + 3, 0, none⟩ = some (.int .i64 at') := by
    have h9 := blk_alloc_new (W2.alloc d.o) (.cells #[.int .i64 at'] 3)
    rw [World.size_alloc, hsz2, hW0] at h9
    unfold World.cell?
    rw [h9]
    rfl
  have hb02 : Below W2.heap.size W2 W0 := by rw [← hW0]; exact ((Below.refl _ W2).alloc (Nat.le_refl _) _).alloc (by simp) _
  have hI0 : EndI d at' N0 w 0 W0 := ⟨hown.keep (hb02.block _ (by omega)), (hb02.block _ (by omega)).trans hlast, hb2.trans (hb02.mono hb2.size), hN0⟩
  clear hown hlast hb2 hb02 hW0
  gi_wp2
  have hin := HIN.out
  have ht := HAT.out
  refine range_z rfl (by omega) (gf := 50) (lb := #[at0 (N0 + 2 + 1), at0 (N0 + 2)]) rfl trivial (enters_of Try.func50 (by kernel_rfl) rfl)
    (laid_seq (9 - 1) (by omega) (N0 + 2 + 1) (N0 + 2) (N0 + 1) d.c d.b at' d.z d.a W0 ht hin.c hin.b hin.z hin.a hcopy hatc) KpI.trans
    (fun W l o o' hl ho hc => KpI.put (by omega) (by omega) W o' (Array.getElem?_eq_some_iff.1 ho).1) (Below.refl _ _) (fun k hk => by rw [laidV_len] at hk; rw [laidV_at _ _ _ _ hk]; rfl)
    (EndI d at' N0 w)
    (fun k X Y row hs hg hr => hs.far hg fun r e => by have := (hr r e).1; omega)
    hI0
    (fun k a' X => a' = { tmps := #[d.v, .int .i64 at', .pointer (some ⟨N0, 0, none⟩), undef, .int .i64 0, .pointer (some ⟨N0 + 1, 0, none⟩), undef, .int .i64 (up (endK at' d.z d.a k) d.a), .int .i64 at', d.v, .int .i64 at', .func (.func 50) #[] #[at0 (N0 + 2 + 1), at0 (N0 + 2)], .int .i64 ((k / d.b : Nat) : Int), .int .i64 (up (endK at' d.z d.a k) d.a), undef, undef, undef, undef, undef], defers := [] } ∧ EndI d at' N0 w k X)
    (fun k a' _ X Y row hs hg hr => ⟨hs.1, hs.2.far hg fun r e => by have := (hr r e).1; omega⟩)
    ?assign ?body ?done
  case assign =>
    rintro l k X K hk hI hK
    rw [laidV_len] at hk
    rw [laidV_at _ _ _ _ hk]
    clear hcopy hatc hI0
    gi_wp2
    exact hK _ _ (KeepsFrom.refl _ _) (KpI.refl _ _ _) ⟨rfl, hI⟩
  case body =>
    rintro l k a' X ⟨rfl, hI⟩ hk
    rw [laidV_len] at hk
    have hcz := hI.own.2.2.1
    have hzf := hI.last.frozen
    have hcl := hI.last.cell
    obtain ⟨i1, i2⟩ := endK_bd (at' := at') ht.1 hin.z hin.a k
    obtain ⟨u1, u2, _⟩ := up_bd (n := endK at' d.z d.a k) (k := d.a) (by omega) hin.a.1
    have hk2 : k < 512 := Nat.lt_of_lt_of_le hk (Nat.mul_le_mul hin.c.2 hin.b.2)
    have hEK : endK at' d.z d.a (k + 1) = up (endK at' d.z d.a k) d.a + d.z := rfl
    have e1 : wrap64 (up (endK at' d.z d.a k) d.a + d.z) = endK at' d.z d.a (k + 1) := by
      have h1 := hin.z; have h2 := hin.a
      rw [hEK]
      unfold wrap64
      omega
    have hlt1 : N0 + 1 < X.heap.size := (Array.getElem?_eq_some_iff.1 hI.last).1
    have hg := (⟨rfl, rfl, rfl, by simp, fun b _ hb => blk_setCell_other _ _ _ _ (fun e => hb (by rw [e]))⟩ : X.grownBy (X.setCell ⟨N0 + 1, 0, none⟩ (.int .i64 (endK at' d.z d.a (k + 1)))) (some (N0 + 1)))
    have HF := Lib.hid (show KeepsFrom W0.heap.size X (X.setCell ⟨N0 + 1, 0, none⟩ (.int .i64 (endK at' d.z d.a (k + 1)))) ∧ KpI (N0 + 1) (N0 + 2) X (X.setCell ⟨N0 + 1, 0, none⟩ (.int .i64 (endK at' d.z d.a (k + 1)))) ∧ EndI d at' N0 w (k + 1) (X.setCell ⟨N0 + 1, 0, none⟩ (.int .i64 (endK at' d.z d.a (k + 1)))) from
      ⟨KeepsFrom.of_grownBy hg (fun j e => by cases e; omega), ⟨(Below.refl _ _).grown hg (by omega) (fun j e => by cases e; omega), fun o ho _ => (blk_setCell_other _ _ _ _ (by show N0 + 2 ≠ N0 + 1; omega)).trans ho⟩,
        ⟨hI.own.keep (blk_setCell_other _ _ _ _ (by show N0 ≠ N0 + 1; omega)), hI.last.set _, hI.bel.grown hg hI.bel.size (fun j e => by cases e; have := hI.n; omega), hI.n⟩⟩)
    obtain ⟨ev, hev⟩ : ∃ ev, endK at' d.z d.a (k + 1) = ev := ⟨_, rfl⟩
    obtain ⟨ek, hek⟩ : ∃ ek, endK at' d.z d.a k = ek := ⟨_, rfl⟩
    rw [hev] at e1 HF
    rw [hek] at e1 hcl ⊢
    obtain ⟨uv, huv⟩ : ∃ uv, up ek d.a = uv := ⟨_, rfl⟩
    rw [huv] at e1 ⊢
    clear hcopy hatc hI0 hI hg hEK i1 i2 u1 u2 hev hek huv hk hk2
    rw [hsz0] at HF
    gi_wp2
    exact HF.out
  case done =>
    rintro D Y hD hI hKD
    rw [laidV_len] at hI
    have hcl := hI.last.cell
    have HB := Lib.hid (show Below w.heap.size w (Y.putObj D (.deferred none)) from hI.bel.grown (grownBy_putObj' Y D (.deferred none)) hI.bel.size (fun j e => by cases e; have := hI.n; omega))
    have HKD := Lib.hid hKD
    clear hcopy hatc hI0 hI hKD
    gi_wp2
    refine ⟨by simp, .inl ⟨_, _, rfl, run_takeDeferred HKD.out, ?_⟩⟩
    exact ⟨_, results_tmp rfl _ _ _, rfl, HB.out⟩
end Go.Proofs.Ytinlcgcnjlifkaa
