/- Rows of one number each, of one's own, that may be written; what RingApart's rings hold. -/
import Derived.Test.YtgcohmlapgnbdaaSA
namespace Go.Proofs.Ytgcohmlapgnbdaa
open Go.RowKit Go.Shelf Go.Deep

def outsM (gs : List (Nat × Nat)) : List Value := gs.map fun p => .slice (some ⟨p.1, 0, none⟩) 1 p.2
def gAt (gs : List (Nat × Nat)) (i : Nat) : Nat × Nat := gs.getD i (0, 0)
structure Mn (B : Nat) (W : World) (gs : List (Nat × Nat)) (xs : Nat → Int) (v : Value) : Prop where
  own : W.ownsRow B 39 1 v gs.length (outsM gs)
  row : ∀ i, i < gs.length → RowN B W (gAt gs i).1 1 (fun _ => xs i) ∧ v.ownBlock ≠ some (gAt gs i).1 ∧ 1 ≤ (gAt gs i).2
  ne : ∀ i j, i < j → j < gs.length → (gAt gs i).1 ≠ (gAt gs j).1
theorem RowN.of_block {B : Nat} {w w' : World} {g n : Nat} {F : Nat → Int} (h : RowN B w g n F) (hb : w'.heap[g]? = w.heap[g]?) (hs : w.heap.size ≤ w'.heap.size) : RowN B w' g n F :=
  ⟨h.lo, Nat.lt_of_lt_of_le h.lt hs, fun i hi => by rw [World.cell?_of_block (w := w) hb]; exact h.cell i hi, fun i => by rw [World.frozen?_of_block (w := w) hb]; exact h.free i⟩
theorem Mn.start (B : Nat) (W : World) (xs : Nat → Int) : Mn B W [] xs (.slice none 0 0) := ⟨World.ownsRow_nil _ _ _ _, fun i hi => absurd hi (Nat.not_lt_zero _), fun i j _ hj => absurd hj (Nat.not_lt_zero _)⟩
theorem gAt_lt {gs : List (Nat × Nat)} {p : Nat × Nat} {i : Nat} (h : i < gs.length) : gAt (gs ++ [p]) i = gAt gs i := getD_snoc_lt h
theorem gAt_eq {gs : List (Nat × Nat)} {p : Nat × Nat} : gAt (gs ++ [p]) gs.length = p := getD_snoc_eq
theorem Mn.step {B : Nat} {wr Wm w2 : World} {gs : List (Nat × Nat)} {xs : Nat → Int} {v v' : Value} {g c : Nat} {tmp : Obj} (h : Mn B wr gs xs v) (hB : B ≤ wr.heap.size) (hb : Below wr.heap.size wr Wm) (hr : RowN wr.heap.size Wm g 1 (fun _ => xs gs.length)) (hc : 1 ≤ c)
    (own2 : w2.ownsRow B 39 1 v' (gs.length + 1) (outsM gs ++ [.slice (some ⟨g, 0, none⟩) 1 c])) (hg : (Wm.alloc tmp).grownBy w2 v.ownBlock) (hm : Moved (Wm.alloc tmp) v v') : Mn B w2 (gs ++ [(g, c)]) xs v' := by
  have old : ∀ k, k < wr.heap.size → v.ownBlock ≠ some k → w2.heap[k]? = wr.heap[k]? := fun k hk hne => (hg.block k (by have := hb.size; simp; omega) (fun e => hne e.symm)).trans ((Below.heap_alloc _ _ k (by have := hb.size; omega)).trans (hb.block k hk))
  have hsz : Wm.heap.size ≤ w2.heap.size := Nat.le_trans (by simp) hg.size
  have hvlt : ∀ k, v.ownBlock = some k → k < wr.heap.size := fun k hk => (h.own.lt k hk).2
  refine ⟨by simpa [outsM] using own2, fun i hi => ?_, fun i j hij hj => ?_⟩
  · simp at hi
    by_cases hlt : i < gs.length
    · rw [gAt_lt hlt]
      obtain ⟨h1, h2, h3⟩ := h.row i hlt
      refine ⟨h1.of_block (old _ h1.lt h2) (Nat.le_trans hb.size hsz), fun e => ?_, h3⟩
      rcases hm with hm | ⟨q, hq, hq2⟩
      · exact h2 (hm.symm.trans e)
      · have := h1.lt; have := hb.size
        rw [hq] at e; cases e; simp at hq2; omega
    · obtain rfl : i = gs.length := by omega
      rw [gAt_eq]
      have hgv : v.ownBlock ≠ some g := fun e => by have := hvlt g e; have := hr.lo; omega
      refine ⟨⟨Nat.le_trans hB hr.lo, Nat.lt_of_lt_of_le hr.lt hsz, ?_, ?_⟩, fun e => ?_, hc⟩
      · exact (RowN.of_block hr ((hg.block g (by have := hr.lt; simp; omega) (fun e => hgv e.symm)).trans (Below.heap_alloc _ _ g hr.lt)) hsz).cell
      · exact (RowN.of_block hr ((hg.block g (by have := hr.lt; simp; omega) (fun e => hgv e.symm)).trans (Below.heap_alloc _ _ g hr.lt)) hsz).free
      · rcases hm with hm | ⟨q, hq, hq2⟩
        · exact hgv (hm.symm.trans e)
        · have := hr.lt
          rw [hq] at e; cases e; simp at hq2; omega
  · simp at hj
    by_cases hlt : j < gs.length
    · rw [gAt_lt hlt, gAt_lt (by omega)]; exact h.ne i j hij hlt
    · obtain rfl : j = gs.length := by omega
      rw [gAt_eq, gAt_lt hij]
      have := (h.row i hij).1.lt
      have := hr.lo
      show _ ≠ g
      omega
theorem Mn.keep {B P R : Nat} {W W' : World} {gs : List (Nat × Nat)} {xs : Nat → Int} {v : Value} (h : Mn B W gs xs v) (hg : Gw P R W W') (hP : P < B) (hR : R < B) : Mn B W' gs xs v := by
  refine ⟨?_, fun i hi => ⟨(h.row i hi).1.of_block (hg.block _ (h.row i hi).1.lt (by have := (h.row i hi).1.lo; omega) (by have := (h.row i hi).1.lo; omega)) hg.size, (h.row i hi).2⟩, h.ne⟩
  rcases h.own.2 with ⟨h1, h2⟩ | ⟨g, cap, cur, h1, hb, hgg, h2⟩
  · exact ⟨h.own.1, .inl ⟨h1, h2⟩⟩
  · exact ⟨h.own.1, .inr ⟨g, cap, cur, h1, hb, (hg.block g (Array.getElem?_eq_some_iff.1 hgg).1 (by omega) (by omega)).trans hgg, h2⟩⟩
theorem Mn.put {B : Nat} {W : World} {gs : List (Nat × Nat)} {xs : Nat → Int} {v : Value} (h : Mn B W gs xs v) {i : Nat} (hi : i < gs.length) (n : Int) : Mn B (W.setCell ⟨(gAt gs i).1, 0, none⟩ (.int .i64 n)) gs (fun j => if j = i then n else xs j) v := by
  have hg := grownBy_setCell' W (gAt gs i).1 (.int .i64 n)
  refine ⟨owns_grown h.own hg (fun g hv e => (h.row i hi).2.1 (by rw [hv]; exact e.symm)), fun j hj => ⟨?_, (h.row j hj).2⟩, h.ne⟩
  by_cases e : j = i
  · subst e
    exact ((h.row j hj).1.set (i := 0) (by omega) n).congr fun k hk => by rw [if_pos (by omega), if_pos rfl]
  · rw [if_neg e]
    refine (h.row j hj).1.of_block (blk_setCell_other _ _ _ _ ?_) (by simp)
    show (gAt gs j).1 ≠ (gAt gs i).1
    by_cases hlt : j < i
    · exact h.ne j i hlt hi
    · exact fun e2 => h.ne i j (by omega) hj e2.symm
theorem Mn.at_ {B : Nat} {W : World} {gs : List (Nat × Nat)} {xs : Nat → Int} {v : Value} (h : Mn B W gs xs v) {i : Nat} (hi : i < gs.length) (hx : I64 (xs i)) : RowIn W [xs i] (.slice (some ⟨(gAt gs i).1, 0, none⟩) 1 (gAt gs i).2) := by
  obtain ⟨h1, h2, h3⟩ := h.row i hi
  refine ⟨some ⟨(gAt gs i).1, 0, none⟩, (gAt gs i).2, rfl, fun k hk => ?_, by simp, by simpa using h3⟩
  simp at hk; subst hk
  exact ⟨_, 0, rfl, by simpa using h1.cell 0 (by omega), by simpa using hx⟩
/-- The outer slice, and its element i. -/
theorem Mn.outer {B : Nat} {W : World} {gs : List (Nat × Nat)} {xs : Nat → Int} {v : Value} (h : Mn B W gs xs v) : ∃ p c, v = .slice p gs.length c ∧ gs.length ≤ c ∧ ∀ i, i < gs.length → ∃ b, p = some ⟨b, 0, none⟩ ∧ W.cell? ⟨b, i, none⟩ = some (.slice (some ⟨(gAt gs i).1, 0, none⟩) 1 (gAt gs i).2) := by
  rcases h.own.2 with ⟨h1, h2⟩ | ⟨g, cap, cur, h1, hb, hgg, h2, _⟩
  · exact ⟨none, 0, by rw [h1, h2], by omega, fun i hi => by omega⟩
  · refine ⟨some ⟨g, 0, none⟩, cap, h1, h2, fun i hi => ⟨g, rfl, ?_⟩⟩
    have := h.own.cells (g := g) (by rw [h1]; rfl) i (.slice (some ⟨(gAt gs i).1, 0, none⟩) 1 (gAt gs i).2) (by simp [outsM, gAt, List.getD, hi])
    rw [add_at] at this
    simpa using this
theorem Mn.mat {B : Nat} {W : World} {gs : List (Nat × Nat)} {xs : Nat → Int} {v : Value} (h : Mn B W gs xs v) {l : List (List Int)} (hl : gs.length = l.length) (h16 : l.length ≤ 16) (hx : ∀ i, i < l.length → l.getD i [] = [xs i] ∧ I64 (xs i)) : MatIn W l v := by
  obtain ⟨p, c, rfl, hc, ho⟩ := h.outer
  refine ⟨p, c, by rw [hl], fun i hi => ?_, by omega, by omega⟩
  obtain ⟨b, rfl, hcell⟩ := ho i (by omega)
  refine ⟨b, 0, _, rfl, by simpa using hcell, ?_⟩
  rw [(hx i hi).1]
  exact h.at_ (by omega) (hx i hi).2
theorem and16 (x : Int) : bits BinOp.and IntKind.i64 x 65535 = x % 65536 := by
  have e1 : (BitVec.ofInt 64 x).toNat = (x % 18446744073709551616).toNat := by rw [BitVec.toNat_ofInt]; rfl
  have e2 : (BitVec.ofInt 64 65535).toNat = 65535 := by decide
  have e3 : ∀ a : Nat, a &&& 65535 = a % 65536 := fun a => Nat.and_two_pow_sub_one_eq_mod a 16
  have e4 : bits BinOp.and IntKind.i64 x 65535 = IntKind.i64.wrap ((BitVec.ofInt 64 x &&& BitVec.ofInt 64 65535).toNat : Nat) := rfl
  rw [e4, BitVec.toNat_and, e1, e2, e3, IntKind.wrap_i64]
  have h0 := Int.emod_nonneg x (show (18446744073709551616 : Int) ≠ 0 by decide)
  have h1 : ((x % 18446744073709551616).toNat : Int) = x % 18446744073709551616 := Int.toNat_of_nonneg h0
  have h2 : (((x % 18446744073709551616).toNat % 65536 : Nat) : Int) = x % 65536 := by
    rw [Int.natCast_emod, h1]; omega
  rw [h2]
  omega

/-- A fresh ring of 16 frames of one sample, from a counter on. -/
def g16 (fi : Int) : Rg := newG 16 1 (fi % 65536)
theorem g16_new (fi : Int) : newB 16 1 (fi % 65536) = true := by
  have h : ctrB (fi % 65536) = true := by simp [ctrB]; omega
  unfold newB; rw [h]; rfl
theorem g16_ok (fi : Int) : (g16 fi).Ok := newG_ok (sz := 16) (ch := 1) (g16_new fi)
theorem g16_room (fi : Int) : (g16 fi).room' = 16 := by
  show (16 : Int) - aheadI (fi % 65536) (fi % 65536) = 16
  unfold aheadI; omega
theorem g16_wrN (fi : Int) {l : List (List Int)} (h : l.length ≤ 16) : wrN (g16 fi) l = l.length := by
  unfold wrN; rw [g16_room]; show min l.length 16 = l.length; omega
theorem g16_writeK (fi : Int) {l : List (List Int)} (h : frms 1 l = true) : writeK (g16 fi) l = 0 := by
  unfold writeK
  rw [show ((g16 fi).ch : Int) = 1 from rfl, if_neg (by rw [h]; decide), if_neg (by show ¬ false = true; decide)]
theorem g16_seen (fi : Int) : (g16 fi).seen = g16 fi := rfl
theorem g16_claim (fi : Int) {l : List (List Int)} (h : l.length ≤ 16) : claimK (g16 fi) l.length = 0 ∧ claimR (g16 fi) l.length = wrG (g16 fi) l l.length 0 ∧ claimU (g16 fi) l.length = l.length := by
  have hk : claimK (g16 fi) l.length = 0 := by
    unfold claimK; rw [if_neg (by omega), if_neg (by show ¬ false = true; decide)]
  have hm : min (l.length : Int) (g16 fi).room = l.length := by
    have : (g16 fi).room = 16 := g16_room fi
    rw [this]; omega
  refine ⟨hk, ?_, ?_⟩
  · unfold claimR; rw [if_pos hk]; unfold Rg.claim; rw [hm]; rfl
  · unfold claimU; rw [if_pos hk, hm]
theorem g16_put (fi : Int) {l : List (List Int)} {j : Nat} (hf : frms 1 l = true) (hj : j < l.length) : putK (wrG (g16 fi) l l.length j) j (l.getD j []) = 0 ∧ putR (wrG (g16 fi) l l.length j) j (l.getD j []) = wrG (g16 fi) l l.length (j + 1) := by
  have h1 : frm 1 (l.getD j []) = true := all_at' (d := []) hf hj
  have hk : putK (wrG (g16 fi) l l.length j) j (l.getD j []) = 0 := by
    unfold putK
    rw [show ((wrG (g16 fi) l l.length j).ch : Int) = 1 from rfl, if_neg (by rw [h1]; decide)]
    show atK (j : Int) true (l.length : Int) = 0
    unfold atK; rw [if_neg (by omega), if_neg (by decide), if_pos (by omega)]
  exact ⟨hk, by unfold putR; rw [if_pos hk]; rfl⟩
theorem g16_commit (fi : Int) {l : List (List Int)} (h : l.length ≤ 16) : commitK (wrG (g16 fi) l l.length l.length) l.length = 0 ∧ commitR (wrG (g16 fi) l l.length l.length) l.length = (g16 fi).wrote l := by
  have hk : commitK (wrG (g16 fi) l l.length l.length) l.length = 0 := by
    show endK (l.length : Int) true (l.length : Int) = 0
    unfold endK; rw [if_neg (by omega), if_neg (by decide), if_pos (by omega)]
  refine ⟨hk, ?_⟩
  unfold commitR; rw [if_pos hk]
  unfold Rg.commitd Rg.wrote wrG
  rw [g16_wrN fi h]
theorem g16_fill (fi : Int) {l : List (List Int)} (h : l.length ≤ 16) : ((g16 fi).wrote l).fill = l.length := by
  show aheadI (((g16 fi).wc + wrN (g16 fi) l) % 65536) (g16 fi).rc = l.length
  rw [g16_wrN fi h]
  show aheadI ((fi % 65536 + l.length) % 65536) (fi % 65536) = l.length
  unfold aheadI; omega
theorem g16_frJ (fi : Int) {l : List (List Int)} (h : l.length ≤ 16) {j : Nat} (hj : j < l.length) : frJ ((g16 fi).wrote l) j = l.getD j [] := by
  show (putsM (g16 fi) l (wrN (g16 fi) l)).getD (plp (g16 fi) ((fi % 65536 + j) % 65536)) [] = l.getD j []
  rw [g16_wrN fi h]
  exact putsM_at (g := g16 fi) (by rfl) (by simp [g16, newG]) (by show 0 ≤ fi % 65536; omega) l.length hj h
theorem g16_frL (fi : Int) {l : List (List Int)} (h : l.length ≤ 16) {k : Nat} (hk : k ≤ l.length) : frL ((g16 fi).wrote l) k = l.take k := by
  apply mat_eq_of
  · rw [frL_len, List.length_take]; omega
  · intro j hj
    rw [frL_len] at hj
    have e1 : (frL ((g16 fi).wrote l) k).getD j [] = frJ ((g16 fi).wrote l) j := by simp [frL, List.getD, hj]
    rw [e1, g16_frJ fi h (by omega)]
    simp [List.getD, List.getElem?_take, hj]
theorem g16_wok (fi : Int) {l : List (List Int)} (hf : frms 1 l = true) : ((g16 fi).wrote l).Ok := by
  have h := wrG_ok (g16_ok fi) (l := l) hf (wrN (g16 fi) l) (wrN (g16 fi) l)
  exact ⟨h.s1, h.s2, h.c1, h.c2, ⟨Int.emod_nonneg _ (by decide), by have := Int.emod_lt_of_pos ((g16 fi).wc + wrN (g16 fi) l) (show (0 : Int) < 65536 by decide); show ((g16 fi).wc + wrN (g16 fi) l) % 65536 ≤ 65535; omega⟩, h.rc, h.vals⟩
end Go.Proofs.Ytgcohmlapgnbdaa
