/- Rows copied into; blocks of zeros as grids; a recovering function that gives new memory. -/
import Derived.Test.YtegomicpolnpoaaSG
import Derived.Test.YtegomicpolnpoaaJA
import Derived.Laws.CopyOwn
namespace Go.Proofs.Ytegomicpolnpoaa
open Go.RowKit Go.Shelf Go.Deep

theorem Try.one3 : (Try.prog.info? 3).map (·.size) = some 1 := by kernel_rfl
theorem grown_setRow (w : World) (g : Nat) (cs : Array Value) : w.grownBy (w.setRow g cs) (some g) :=
  ⟨rfl, rfl, rfl, by simp [World.setRow], fun k _ hk => setRow_other w g k cs (fun e => hk (by rw [e]))⟩

/-- What a row holds when m numbers were copied to its place off. -/
def spl (f : Nat → Value) (off m : Nat) (L : Nat → Int) : Nat → Value := fun j => if off ≤ j ∧ j < off + m then .int .i64 (L (j - off)) else f j

theorem wpList_copy_grid {P : Program} {w : World} {ops : Array Oper} {rest : List Oper} {o : Oper} {a : Act} {Q : Exit → Act → World → Prop} (hgd : o.guard = none) (d s : Operand) (dT sT : TypeId)
    (ho : o.op = .call { callee := .builtin .copy, args := #[d, s], argTypes := #[dT, sT] }) (elem : TypeId) (hu : P.underlying dT = some (.slice elem)) (hsz : (P.info? elem).map (·.size) = some 1)
    (dp sp : Option Addr) (dLen dCap sLen sCap : Nat) (hd : a.eval d = .slice dp dLen dCap) (hs : a.eval s = .slice sp sLen sCap)
    (g off n : Nat) (f : Nat → Value) (t : TypeId) (hr : w.rowIs g t n f) (m : Nat) (L : Nat → Int) (hm : m = Nat.min sLen dLen)
    (hpos : 0 < m → dp = some ⟨g, off, none⟩ ∧ ∃ ad, sp = some ad ∧ ∀ j, j < m → w.cell? (ad.add j) = some (.int .i64 (L j))) (hfit : off + m ≤ n)
    (h : ∀ w', w'.rowIs g t n (spl f off m L) → w.grownBy w' (some g) → wpList P ops Q rest (a.put o.dst (goInt m)) w') : wpList P ops Q (o :: rest) a w := by
  by_cases h0 : m = 0
  · subst h0
    refine wpList_copy_nothing hgd d s dT sT ho elem hu hsz dp sp dLen dCap sLen sCap hd hs hm.symm ?_
    exact h w (hr.congr fun j _ => by unfold spl; rw [if_neg (by omega)]) ⟨rfl, rfl, rfl, Nat.le_refl _, fun _ _ _ => rfl⟩
  · obtain ⟨rfl, ad, rfl, hsrc⟩ := hpos (by omega)
    obtain ⟨c, hb, hcs, hc⟩ := hr
    have hlen : ((List.range m).map fun j => Value.int .i64 (L j)).length = m := by simp
    have hsrc' : ∀ j v, ((List.range m).map fun j => Value.int .i64 (L j))[j]? = some v → w.cell? (ad.add j) = some v := by
      intro j v hj
      have hj' : j < m := by have := (List.getElem?_eq_some_iff.1 hj).1; simpa using this
      simp [hj'] at hj
      rw [← hj]; exact hsrc j hj'
    refine wpList_copy_own hgd d s dT sT ho elem hu hsz g off dLen dCap ad sLen sCap hd hs c t hb ((List.range m).map fun j => Value.int .i64 (L j)) (by rw [hlen]; exact hm) hsrc' (by rw [hlen]; omega) (by intro v hv; simp at hv; obtain ⟨j, _, rfl⟩ := hv; rfl) ?_
    rw [hlen]
    refine h _ ⟨_, setRow_heap w g _ _ t _ hb, by simp [hcs]; omega, fun i hi => ?_⟩ (grown_setRow w g _)
    unfold spl
    rw [List.getElem?_toArray]
    by_cases h1 : i < off
    · rw [if_neg (by omega), List.getElem?_append_left (by simp [hcs]; omega), List.getElem?_take_of_lt h1]
      simpa using hc i hi
    · have hl1 : (c.toList.take off).length = off := by simp [hcs]; omega
      rw [List.getElem?_append_right (by omega), hl1]
      by_cases h2 : i < off + m
      · rw [if_pos ⟨by omega, h2⟩, List.getElem?_append_left (by simp; omega)]
        simp [show i - off < m by omega]
      · rw [if_neg (by omega), List.getElem?_append_right (by simp; omega), List.getElem?_drop]
        simp only [List.length_map, List.length_range]
        rw [show off + m + (i - off - m) = i by omega]
        simpa using hc i hi

set_option maxRecDepth 100000 in
theorem silent_gr {r c : Nat} (hr1 : 1 ≤ r) (hr : r ≤ 8) (hc : c ≤ 4096) (w : World) : Calls Try.prog 80 #[.int .i64 r, .int .i64 c] w fun e w' =>
    e = .returned (.tuple #[.slice (some ⟨w.heap.size, 0, none⟩) r r, .int .i64 0]) ∧ Gr w.heap.size r c (fun _ _ => 0) w' ∧ Below w.heap.size w w' := by
  have h1 := isChannels_any r w
  have h2 := isFrames_any c w
  rw [show chB r = true by simp [chB]; omega] at h1
  rw [show frB c = true by simp [frB]; omega] at h2
  have h3 := zeros_gr r c hr hc w
  go_enter Try.func80, Try.ntmps80
  go_wp2_with (first | (go_at_call 106; refine h1.mono ?_; rintro e w1 ⟨rfl, rfl⟩) | (go_at_call 107; refine h2.mono ?_; rintro e w1 ⟨rfl, rfl⟩) | (go_at_call 115; refine h3.mono ?_; rintro e w1 ⟨rfl, hm, hb⟩; have HM := Lib.hid hm; have HB := Lib.hid hb; clear hm hb))
  go_ret2
  exact ⟨rfl, HM.out, HB.out⟩

set_option maxHeartbeats 1000000 in
set_option maxRecDepth 100000 in
theorem fitted77_new (f : FuncId) (caps : Array Value) (w : World) (Φ : Value → World → Prop) (hΦ : ∀ u w1 w2, (∀ k, k ≠ w.heap.size → k < w1.heap.size → w2.heap[k]? = w1.heap[k]?) → Φ u w1 → Φ u w2)
    (hcf : ∀ w : World, (callFunc f caps).run Try.prog w = .ok (.enter f caps) w)
    (hc : Calls Try.prog f caps (w.alloc (.cells #[.int .i64 0] 22)) (Gives Φ (w.alloc (.cells #[.int .i64 0] 22)))) :
    Calls Try.prog 77 #[.func (.func f) #[] caps] w (GivesOk Φ 0 w) := by
  have hmf : ∀ (fn : Fn) (first cap : Array Value) (w : World), (Instr.makeFunc fn first cap).run Try.prog w = .ok (.func fn first cap) w := fun _ _ _ _ => rfl
  go_enter_defers Try.func77, Try.ntmps77
  go_wp2_with fail
  refine hc.mono ?_
  rintro e w1 ⟨u, rfl, hu, hb⟩
  have hlt : w.heap.size < w1.heap.size := by have := hb.size; simp at this; omega
  have k1 : w1.cell? ⟨w.heap.size, 0, none⟩ = some (.int .i64 0) := by rw [hb.cell (by simp)]; simp [go_sem]
  have k2 : w1.frozen? ⟨w.heap.size, 0, none⟩ = false := by rw [hb.frozen (by simp)]; simp [go_sem]
  have HB := Lib.hid hb
  have HU := Lib.hid hu
  clear hb hu hc
  go_wp2_with fail
  refine leaves_cons (f := 114) (args := #[.pointer (some ⟨w.heap.size, 0, none⟩)]) (by simp) (by simp [go_sem]) ?_
  refine (catch114_idle ⟨w.heap.size, 0, none⟩ _).mono ?_
  rintro e u' w'' ⟨rfl, rfl, rfl⟩
  have k3 : ((w1.setCell ⟨w.heap.size, 0, none⟩ (.int .i64 0)).alloc (.cells #[.int .i64 0] 116)).cell? ⟨w.heap.size, 0, none⟩ = some (.int .i64 0) :=
    (Same.alloc _ _).cell (World.cell?_setCell_same _ _ _ k1)
  have hs : ∀ k, k ≠ w.heap.size → k < w1.heap.size → ((w1.setCell ⟨w.heap.size, 0, none⟩ (.int .i64 0)).alloc (.cells #[.int .i64 0] 116)).heap[k]? = w1.heap[k]? := fun k hk hlt2 =>
    (Below.heap_alloc _ _ k (by simpa using hlt2)).trans (blk_setCell_other _ _ _ _ hk)
  have hbel : Below w.heap.size w ((w1.setCell ⟨w.heap.size, 0, none⟩ (.int .i64 0)).alloc (.cells #[.int .i64 0] 116)) :=
    ((((Below.refl _ w).alloc (Nat.le_refl _) _).trans (HB.out.mono (by simp))).setCell (Nat.le_refl _) _).alloc (by simp; omega) _
  have hfin := hΦ _ _ _ hs HU.out
  simp [Leaves, settle, results, Try.results77, go_sem, k3]
  exact ⟨u, rfl, hfin, hbel⟩


/-- A row of the grid is written: the others stay. -/
theorem Gr.row {N r c : Nat} {F G : Nat → Nat → Int} {W W' : World} (h : Gr N r c F W) {k : Nat} (hk : k < r) (hg : W.grownBy W' (some (N + 1 + k))) (hr : W'.rowIs (N + 1 + k) 3 c (fun i => .int .i64 (G k i)))
    (e : ∀ j i, j < r → j ≠ k → i < c → F j i = G j i) : Gr N r c G W' := by
  refine ⟨h.top.of_block (hg.block _ h.top.lt (by intro e; simp at e; omega)), fun j hj => ?_⟩
  by_cases hjk : j = k
  · subst hjk; exact hr
  · exact ((h.rows j hj).of_block (hg.block _ (h.rows j hj).lt (by intro e; simp at e; omega))).congr fun i hi => by rw [e j i hj hjk hi]
end Go.Proofs.Ytegomicpolnpoaa
