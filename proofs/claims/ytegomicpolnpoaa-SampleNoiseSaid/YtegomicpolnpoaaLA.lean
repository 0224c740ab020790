/- A grid whose rows were appended (stage 3's LA). -/
import Derived.Test.YtegomicpolnpoaaGB
import Derived.Laws.OwnMore
import Derived.Test.YtegomicpolnpoaaBB
namespace Go.Proofs.Ytegomicpolnpoaa
open Go.RowKit Go.Lib Go.Deep

/-- A grid of numbers in new memory: the outer row in block g, the rows in the blocks gs. -/
structure Gn (B g : Nat) (gs : Nat → Nat) (r c : Nat) (F : Nat → Nat → Int) (W : World) : Prop where
  top : ∀ j, j < r → W.cell? ⟨g, j, none⟩ = some (.slice (some ⟨gs j, 0, none⟩) c c)
  off : ∀ j, j < r → gs j ≠ g
  lo : ∀ j, j < r → B ≤ gs j
  inj : ∀ i j, i < r → j < r → gs i = gs j → i = j
  rows : ∀ j, j < r → W.rowIs (gs j) 3 c (fun i => .int .i64 (F j i))
theorem Gn.congr {B g r c : Nat} {gs : Nat → Nat} {F G : Nat → Nat → Int} {W : World} (h : Gn B g gs r c F W) (e : ∀ j i, j < r → i < c → F j i = G j i) : Gn B g gs r c G W :=
  ⟨h.top, h.off, h.lo, h.inj, fun j hj => (h.rows j hj).congr fun i hi => by rw [e j i hj hi]⟩
theorem Gn.set {B g r c : Nat} {gs : Nat → Nat} {F : Nat → Nat → Int} {W : World} (h : Gn B g gs r c F W) {j : Nat} (hj : j < r) (i : Nat) (x : Int) :
    Gn B g gs r c (fun a b => if a = j ∧ b = i then x else F a b) (W.setCell ⟨gs j, i, none⟩ (.int .i64 x)) := by
  refine ⟨fun q hq => ?_, h.off, h.lo, h.inj, fun q hq => ?_⟩
  · rw [World.cell?_setCell_other _ _ _ _ (fun e => h.off j hj (by cases e; rfl))]
    exact h.top q hq
  · by_cases e : q = j
    · subst e
      exact ((h.rows q hq).set i _).congr fun a _ => by by_cases ea : a = i <;> simp [ea]
    · exact ((h.rows q hq).setOther (fun e2 => e (h.inj q j hq hj e2)) _).congr fun a _ => by simp [e]
theorem Gn.below {B g r c : Nat} {gs : Nat → Nat} {F : Nat → Nat → Int} {W W' : World} (h : Gn B g gs r c F W) (hb : Below W.heap.size W W') : Gn B g gs r c F W' :=
  ⟨fun j hj => (Same.of_below hb).cell (h.top j hj), h.off, h.lo, h.inj, fun j hj => (h.rows j hj).of_block (hb.block _ (h.rows j hj).lt)⟩
theorem Gn.drewN {B g r c : Nat} {gs : Nat → Nat} {F : Nat → Nat → Int} {W : World} (h : Gn B g gs r c F W) (n : Nat) : Gn B g gs r c F (W.drewN n) := ⟨h.top, h.off, h.lo, h.inj, h.rows⟩
theorem Gn.drew {B g r c : Nat} {gs : Nat → Nat} {F : Nat → Nat → Int} {W : World} (h : Gn B g gs r c F W) : Gn B g gs r c F W.drew := ⟨h.top, h.off, h.lo, h.inj, h.rows⟩
theorem Gn.mat {B g r c cap : Nat} {gs : Nat → Nat} {F : Nat → Nat → Int} {W : World} (h : Gn B g gs r c F W) (hr : r ≤ 8) (hc : c ≤ 4096) (hcap : r ≤ cap) (hF : ∀ j i, j < r → i < c → I64 (F j i)) : MatIn W (tabM r c F) (.slice (some ⟨g, 0, none⟩) r cap) := by
  refine ⟨some ⟨g, 0, none⟩, cap, by simp [tabM_len], fun i hi => ?_, by simp [tabM_len]; omega, by simpa [tabM_len] using hcap⟩
  simp [tabM_len] at hi
  refine ⟨g, 0, .slice (some ⟨gs i, 0, none⟩) c c, rfl, by rw [Nat.zero_add]; exact h.top i hi, ?_⟩
  rw [tabM_row F hi]
  refine ⟨some ⟨gs i, 0, none⟩, c, by simp, fun f hf => ⟨gs i, 0, rfl, ?_, ?_⟩, by simp; omega, by simp⟩
  · simp at hf
    rw [Nat.zero_add, (h.rows i hi).cell hf]; simp [List.getD, hf]
  · simp at hf
    have := hF i f hi hf
    simpa [List.getD, hf] using this

theorem Nz.gn {w wr : World} {c : Nat} {l : List Nat} {v : Value} (h : Nz w wr c l v) (hnd : l.Nodup) (hlo : ∀ g ∈ l, w.heap.size ≤ g) (h1 : 1 ≤ l.length) :
    ∃ g cap, v = .slice (some ⟨g, 0, none⟩) l.length cap ∧ l.length ≤ cap ∧ Gn w.heap.size g (fun j => l.getD j 0) l.length c (fun _ _ => 0) wr := by
  have hol := h.own
  rcases hol.2 with ⟨rfl, h0⟩ | ⟨g, cap, cur, rfl, hb, hgg, hn, hcm, _, _⟩
  · omega
  · have hat : ∀ j, j < l.length → l.getD j 0 ∈ l := fun j hj => by
      rw [show l.getD j 0 = l[j] by simp [List.getD, hj]]; exact List.getElem_mem hj
    refine ⟨g, cap, rfl, hn, fun j hj => ?_, fun j hj e => ?_, fun j hj => ?_, fun i j hi hj e => ?_, fun j hj => ((h.rows _ (hat j hj)).1)⟩
    · have hcell := hol.cells (g := g) rfl j (.slice (some ⟨l.getD j 0, 0, none⟩) c c) (by simp [outs, List.getD, hj])
      by_cases i0 : j = 0
      · subst i0; simpa [Addr.add] using hcell
      · simpa [Addr.add, i0] using hcell
    · exact (h.rows _ (hat j hj)).2 (by rw [e]; rfl)
    · exact hlo _ (hat j hj)
    · have e' : l[i] = l[j] := by simpa [List.getD, hi, hj] using e
      exact (List.getElem?_inj hi hnd).1 (by rw [List.getElem?_eq_getElem hi, List.getElem?_eq_getElem hj, e'])
def NoGn (r c : Nat) (w : World) (e : Ending) (w' : World) : Prop := ∃ g cap gs, e = .returned (.slice (some ⟨g, 0, none⟩) r cap) ∧ r ≤ cap ∧ Gn w.heap.size g gs r c (fun _ _ => 0) w' ∧ Below w.heap.size w w'
set_option maxHeartbeats 1000000 in
set_option maxRecDepth 100000 in
theorem nothing_gn (r c : Nat) (h1 : 1 ≤ r) (hr : r ≤ 8) (hc : c ≤ 4096) (w : World) : Calls Try.prog 84 #[.int .i64 r, .int .i64 c] w (NoGn r c w) := by
  obtain ⟨i0, hi, hz0, hz1, hz2⟩ := info_parts Try.info34
  go_enter Try.func84, Try.ntmps84
  go_wp2_with fail
  go_loopw [5, 6] (fun v i wr => ∃ (gs : List Nat) (k : Nat), i = .int .i64 k ∧ k = gs.length ∧ k ≤ r ∧ (gs.Nodup ∧ ∀ g ∈ gs, w.heap.size ≤ g) ∧ Nz w wr c gs v) (fun _ i _ => r - (RowKit.intOf i).toNat)
  case atStart => exact ⟨[], 0, rfl, rfl, Nat.zero_le _, ⟨List.nodup_nil, fun g hg => by simp at hg⟩, Nz.start w c⟩
  case round =>
    obtain ⟨gs, k, rfl, hkl, hk, hnd, hz⟩ := hrel
    have HND := Lib.hid (show (gs ++ [wr.heap.size]).Nodup ∧ ∀ g ∈ gs ++ [wr.heap.size], w.heap.size ≤ g from ⟨List.nodup_append.2 ⟨hnd.1, by simp, fun a ha b hb e => by simp at hb; have := (hz.rows a ha).1.lt; omega⟩, fun g hg => by rcases List.mem_append.1 hg with hg | hg; exact hnd.2 g hg; simp at hg; have := hz.below.size; omega⟩)
    have HN0 := Lib.hid hnd
    clear hnd
    have HK := Lib.hid hkl
    clear hkl
    by_cases hlt : k < r
    · have w4 : (k : Int) < (r : Int) := by omega
      have hmk22 := run_make_row' (P := Try.prog) 34 3 (.int .i64 0) 8 Try.underlying34 Try.info3 rfl .i64 .i64 c (by omega) (by omega)
      have hown := (hz.own.alloc (.cells (madeCells #[.int .i64 0] c) 3)).alloc (.cells #[.slice (some ⟨wr.heap.size, 0, none⟩) c c] 34)
      have HZ := Lib.hid hz
      clear hz
      go_wp2_with (at_builtin; refine wpList_append_moves rfl _ _ 29 rfl w.heap.size 34 i0 _ 1 24 Try.underlying29 hi hz0 hz1 hz2 rfl (by decide) _ _ _ rfl hown ⟨wr.heap.size + 1, 0, none⟩ 1 1 [.slice (some ⟨wr.heap.size, 0, none⟩) c c] rfl rfl ?c1 ?c2 ?c3 ?c4 ?c5 ?_)
      case c1 =>
        intro j u hu
        match j with
        | 0 => simp at hu; subst hu; simp [go_sem]
        | j + 1 => simp at hu
      case c2 => intro u hu; simp at hu; subst hu; rfl
      case c3 => have := HK.out; unfold maxLen; omega
      case c4 => have := HK.out; omega
      case c5 => have := HZ.out.below.size; simp; omega
      intro v' w1 hown1 hg1 hm1
      have HN := Lib.hid (HZ.out.step hown1 hg1 hm1)
      clear hown1 hg1 hm1 hown
      go_wp2_with fail
      go_roundw
      case rel => exact ⟨gs ++ [wr.heap.size], k + 1, by go_num, by simp [HK.out], by omega, HND.out, HN.out⟩
      case measure => simp [RowKit.intOf]; omega
    · have w4 : ¬ (k : Int) < (r : Int) := by omega
      obtain rfl : k = r := by omega
      go_wp2_with fail
      go_ret
      obtain ⟨g, cap, rfl, hcap, hgn⟩ := hz.gn HN0.out.1 HN0.out.2 (by have := HK.out; omega)
      rw [← HK.out] at hcap hgn ⊢
      exact ⟨g, cap, _, rfl, hcap, hgn, hz.below⟩
end Go.Proofs.Ytegomicpolnpoaa
