/- Cut: what it tells; what lies behind its boxes at the head of a round. -/
import Derived.Test.YtfbeeaibejggdaaDoorMC
import Derived.Test.YtfbeeaibejggdaaDoorJA
import Derived.Outline
namespace Go.Proofs.YtfbeeaibejggdaaDoor
open Go.RowKit Go.Lib

def inB (fr til x : Int) : Bool := decide (fr ≤ x) && decide (x < til)
def cutK (keys : List Int) (fr til : Int) : Nat → List Int
  | 0 => []
  | k + 1 => cutK keys fr til k ++ (if inB fr til (keys.getD k 0) then [keys.getD k 0 - fr] else [])
def cutL (keys : List Int) (kids : List T) (fr til : Int) : Nat → List T
  | 0 => []
  | k + 1 => cutL keys kids fr til k ++ (if inB fr til (keys.getD k 0) then (kids[k]?).toList else [])
theorem cutK_yes {keys : List Int} {fr til x : Int} {k : Nat} (hx : Hid (keys.getD k 0 = x)) (h : inB fr til x = true) : cutK keys fr til (k + 1) = cutK keys fr til k ++ [x - fr] := by
  rw [cutK, hx.out, if_pos h]
theorem cutK_no {keys : List Int} {fr til x : Int} {k : Nat} (hx : Hid (keys.getD k 0 = x)) (h : inB fr til x = false) : cutK keys fr til (k + 1) = cutK keys fr til k := by
  rw [cutK, hx.out, if_neg (by rw [h]; simp), List.append_nil]
theorem cutL_yes {keys : List Int} {kids : List T} {fr til x : Int} {k : Nat} (hk : k < kids.length) (hx : Hid (keys.getD k 0 = x)) (h : inB fr til x = true) : cutL keys kids fr til (k + 1) = cutL keys kids fr til k ++ [kids[k]] := by
  rw [cutL, hx.out, if_pos h, List.getElem?_eq_getElem hk]; rfl
theorem cutL_no {keys : List Int} {kids : List T} {fr til x : Int} {k : Nat} (hx : Hid (keys.getD k 0 = x)) (h : inB fr til x = false) : cutL keys kids fr til (k + 1) = cutL keys kids fr til k := by
  rw [cutL, hx.out, if_neg (by rw [h]; simp), List.append_nil]
theorem cut_lens (keys : List Int) (kids : List T) (fr til : Int) : ∀ k, k ≤ kids.length → (cutK keys fr til k).length = (cutL keys kids fr til k).length ∧ (cutK keys fr til k).length ≤ k
  | 0, _ => by simp [cutK, cutL]
  | k + 1, h => by
    obtain ⟨h1, h2⟩ := cut_lens keys kids fr til k (by omega)
    rw [cutK, cutL, List.length_append, List.length_append, List.getElem?_eq_getElem (by omega)]
    cases inB fr til (keys.getD k 0) <;> simp <;> omega

def zeroT : T := .mk 0 0 ⟨#[]⟩ [] []
/-- What Cut tells. -/
def cutV (t : T) (fr til : Int) : T × Int :=
  if validB t then (if t.kind = 10 then (if fr < 0 ∨ til < fr ∨ 1000000000 < til then (zeroT, 7) else (.mk 10 0 ⟨#[]⟩ (cutK t.keys fr til t.keys.length) (cutL t.keys t.kids fr til t.keys.length), 0)) else (zeroT, 10)) else (zeroT, 1)
def CutPost (t : T) (fr til : Int) (w : World) (e : Ending) (w' : World) : Prop :=
  ∃ qk qn qs qa qb qc qd qe qf, e = .returned (.tuple #[.agg #[.int .i64 qk, .int .i64 qn, .string qs, .slice qa qb qc, .slice qd qe qf], .int .i64 (cutV t fr til).2]) ∧
    Rep w' (cutV t fr til).1 (.agg #[.int .i64 qk, .int .i64 qn, .string qs, .slice qa qb qc, .slice qd qe qf]) ∧ Below w.heap.size w w'

theorem zero_rep (w : World) : Rep w zeroT (.agg #[.int .i64 0, .int .i64 0, .string ⟨#[]⟩, .slice none 0 0, .slice none 0 0]) := by
  unfold zeroT Rep
  exact ⟨none, none, 0, 0, rfl, by unfold I64; omega, by unfold I64; omega, by decide, by simp, by simp, fun i hi => by simp at hi, by unfold KidsIn; trivial⟩

/-- The head of a round: X the argument's box, the answer's cell behind it, out at bx. -/
structure Ct (w : World) (X : Obj) (bx : Nat) (ks : List Int) (l : List T) (kv vv : Value) (wr : World) : Prop where
  in2 : In2 w X (.cells zero25 25 (0, 0)) wr
  bx1 : w.heap.size + 2 ≤ bx
  bx2 : bx < wr.heap.size
  out : wr.heap[bx]? = some (.cells #[.int .i64 10, .int .i64 0, .string ⟨#[]⟩, kv, vv] 25 (0, 0))
  keys : wr.ownsRow (bx + 1) 3 1 kv ks.length (ks.map (Value.int .i64))
  kids : Row25 (bx + 1) wr kv vv w.heap.size bx l

theorem Ct.first {w : World} {X : Obj} {w1 : World} (h : In2 w X (.cells zero25 25 (0, 0)) w1) : Ct w X w1.heap.size [] [] (.slice none 0 0) (.slice none 0 0) (w1.alloc (.cells #[.int .i64 10, .int .i64 0, .string ⟨#[]⟩, .slice none 0 0, .slice none 0 0] 25 (0, 0))) := by
  have hs := Below.size h
  simp only [World.size_alloc] at hs
  exact ⟨Below.alloc h (by omega) _, by omega, by simp, heap_alloc_new _ _, World.ownsRow_nil _ _ _ _, Row25.nil _ _ _ _ _⟩

theorem Ct.cells {w : World} {x0 x1 x2 x3 x4 : Value} {bx : Nat} {ks : List Int} {l : List T} {kv vv : Value} {wr : World} (h : Ct w (.cells #[x0, x1, x2, x3, x4] 25) bx ks l kv vv wr) :
    (wr.cell? ⟨w.heap.size, 0, none⟩ = some x0 ∧ wr.cell? ⟨w.heap.size, 1, none⟩ = some x1 ∧ wr.cell? ⟨w.heap.size, 2, none⟩ = some x2 ∧ wr.cell? ⟨w.heap.size, 3, none⟩ = some x3 ∧ wr.cell? ⟨w.heap.size, 4, none⟩ = some x4) ∧
    (wr.cell? ⟨bx, 0, none⟩ = some (.int .i64 10) ∧ wr.cell? ⟨bx, 1, none⟩ = some (.int .i64 0) ∧ wr.cell? ⟨bx, 2, none⟩ = some (.string ⟨#[]⟩) ∧ wr.cell? ⟨bx, 3, none⟩ = some kv ∧ wr.cell? ⟨bx, 4, none⟩ = some vv) := by
  obtain ⟨hc, _⟩ := In2.cells (y0 := .int .i64 0) (y1 := .int .i64 0) (y2 := .string ⟨#[]⟩) (y3 := .slice none 0 0) (y4 := .slice none 0 0) h.in2
  exact ⟨hc, (five_all h.out).1⟩

/-- The value that out is, in a world that keeps all but the boxes. -/
theorem Ct.rep {w : World} {X : Obj} {bx : Nat} {ks : List Int} {l : List T} {kv vv : Value} {wr : World} (h : Ct w X bx ks l kv vv wr) (hI : ∀ x ∈ ks, I64 x) (h1 : ks.length ≤ 1000000) (h2 : l.length ≤ 1000000) :
    ∃ ka kc va vc, kv = .slice ka ks.length kc ∧ vv = .slice va l.length vc ∧ ∀ w' : World, Keeps (fun b => ¬ (w.heap.size ≤ b ∧ b ≤ bx)) wr w' →
      Rep w' (.mk 10 0 ⟨#[]⟩ ks l) (.agg #[.int .i64 10, .int .i64 0, .string ⟨#[]⟩, .slice ka ks.length kc, .slice va l.length vc]) := by
  have hI' : ∀ i, i < ks.length → I64 (ks.getD i 0) := fun i hi => hI _ (by simp [List.getD, List.getElem?_eq_getElem hi])
  obtain ⟨ka, kc, hkv, hkeys⟩ := keys_own hI' h.keys
  obtain ⟨va, vc, hvv, _⟩ := h.kids.kids
  refine ⟨ka, kc, va, vc, hkv, hvv, fun w' hk => ?_⟩
  have hb := h.bx1
  obtain ⟨va', vc', hvv', hkids⟩ := h.kids.kids_keep (by omega) hk
  rw [hvv] at hvv'
  injection hvv' with e1 _ e2
  subst e1
  subst e2
  unfold Rep
  exact ⟨ka, va, kc, vc, rfl, by unfold I64; omega, by unfold I64; omega, by decide, by omega, by omega, hkeys w' fun a u ha hc => hk a u (by show ¬ (w.heap.size ≤ a.block ∧ a.block ≤ bx); omega) hc, hkids⟩

/-- A key more. -/
theorem Ct.key {w : World} {X : Obj} {bx : Nat} {ks : List Int} {l : List T} {kv vv : Value} {wr : World} (h : Ct w X bx ks l kv vv wr) {o : Obj} {kv' : Value} {w1 : World} {x : Int}
    (hown : w1.ownsRow (bx + 1) 3 1 kv' (ks.length + 1) (ks.map (Value.int .i64) ++ [.int .i64 x])) (hg : (wr.alloc o).grownBy w1 kv.ownBlock) (hm : Moved (wr.alloc o) kv kv') :
    Ct w X bx (ks ++ [x]) l kv' vv (w1.setCell ⟨bx, 3, none⟩ kv') := by
  have hb1 := h.bx1
  have hb2 := h.bx2
  have hlt := fun q hq => h.keys.lt q hq
  have hs := hg.size
  simp only [World.size_alloc] at hs
  have hin : In2 w X (.cells zero25 25 (0, 0)) w1 := Below.grown (Below.alloc h.in2 (by omega) o) hg (by simp; omega) (fun q hq => by have := (hlt q hq).1; omega)
  have hout : w1.heap[bx]? = some (.cells #[.int .i64 10, .int .i64 0, .string ⟨#[]⟩, kv, vv] 25 (0, 0)) := by
    rw [hg.block bx (by simp; omega) (fun e => by have := (hlt bx e.symm).1; omega), heap_alloc_old _ hb2]; exact h.out
  refine ⟨Below.setCell hin (by show w.heap.size + 2 ≤ bx; omega) _, hb1, by rw [size_setCell]; omega, ?_, ?_, ?_⟩
  · rw [heap_setCell_same _ _ _ _ _ _ hout]; rfl
  · have hkk : w1.ownsRow (bx + 1) 3 1 kv' (ks ++ [x]).length ((ks ++ [x]).map (Value.int .i64)) := by simpa using hown
    refine ⟨hkk.1, ?_⟩
    rcases hkk.2 with h3 | ⟨g, cap, cur, hv, hg3, hh, r⟩
    · exact .inl h3
    · exact .inr ⟨g, cap, cur, hv, hg3, (heap_setCell_other _ _ _ _ (by show g ≠ bx; omega)).trans hh, r⟩
  · exact (Row25.keyed (h.kids.alloc o) (h.keys.alloc o) hg hm).set (by omega) (Nat.le_refl _) (by omega) 3 kv'

/-- A kid more: from the world at the append's end. -/
theorem Ct.kid {w : World} {X : Obj} {bx : Nat} {ks : List Int} {l : List T} {kv vv : Value} {wr : World} (h : Ct w X bx ks l kv vv wr) {cs : List Value} {vv' : Value} {w1 : World} {t : T} {u0 u1 u2 u3 u4 : Value}
    (hcs : wr.ownsRow (bx + 1) 25 5 vv l.length cs) (hel : ∀ j, (h : j < l.length) → OwnP (Off kv vv w.heap.size bx) wr l[j] (five cs j))
    (hown : w1.ownsRow (bx + 1) 25 5 vv' (l.length + 1) (cs ++ [u0, u1, u2, u3, u4])) (hg : wr.grownBy w1 vv.ownBlock) (hm : Moved wr vv vv') (hn : OwnP (Off kv vv w.heap.size bx) wr t (.agg #[u0, u1, u2, u3, u4])) :
    Ct w X bx ks (l ++ [t]) kv vv' (w1.setCell ⟨bx, 4, none⟩ vv') := by
  have hb1 := h.bx1
  have hb2 := h.bx2
  have hlt := fun q hq => hcs.lt q hq
  have hs := hg.size
  have hin : In2 w X (.cells zero25 25 (0, 0)) w1 := Below.grown h.in2 hg (by omega) (fun q hq => by have := (hlt q hq).1; omega)
  have hout : w1.heap[bx]? = some (.cells #[.int .i64 10, .int .i64 0, .string ⟨#[]⟩, kv, vv] 25 (0, 0)) := by
    rw [hg.block bx hb2 (fun e => by have := (hlt bx e.symm).1; omega)]; exact h.out
  have hp := Row25.push hcs hel hown hg hm hn
  refine ⟨Below.setCell hin (by show w.heap.size + 2 ≤ bx; omega) _, hb1, by rw [size_setCell]; omega, ?_, ?_, ?_⟩
  · rw [heap_setCell_same _ _ _ _ _ _ hout]; rfl
  · have hkk : w1.ownsRow (bx + 1) 3 1 kv ks.length (ks.map (Value.int .i64)) := by
      refine h.keys.kept hg ?_
      rcases h.keys.2 with ⟨e, _⟩ | ⟨g, cap, cur, e, _, hh, _⟩
      · rw [e]; exact .inl rfl
      · rcases hcs.2 with ⟨e', _⟩ | ⟨g', cap', cur', e', _, hh', _⟩
        · rw [e, e']; exact .inr (by simp [Value.ownBlock])
        · rw [e, e']
          refine .inr fun e3 => ?_
          simp only [Value.ownBlock, Option.some.injEq] at e3
          subst e3
          rw [hh] at hh'
          simp at hh'
    refine ⟨hkk.1, ?_⟩
    rcases hkk.2 with h3 | ⟨g, cap, cur, hv, hg3, hh, r⟩
    · exact .inl h3
    · exact .inr ⟨g, cap, cur, hv, hg3, (heap_setCell_other _ _ _ _ (by show g ≠ bx; omega)).trans hh, r⟩
  · exact hp.set (by omega) (Nat.le_refl _) (by omega) 4 vv'

/-- Behind the append, ahead of the store. -/
theorem Ct.mid {w : World} {X : Obj} {bx : Nat} {ks : List Int} {l : List T} {kv vv : Value} {wr : World} (h : Ct w X bx ks l kv vv wr) {w1 : World} {row : Option Nat} (hr : row = kv.ownBlock ∨ row = vv.ownBlock) (hg : wr.grownBy w1 row) :
    w1.heap[bx]? = some (.cells #[.int .i64 10, .int .i64 0, .string ⟨#[]⟩, kv, vv] 25 (0, 0)) ∧ In2 w X (.cells zero25 25 (0, 0)) w1 := by
  have hb1 := h.bx1
  have hb2 := h.bx2
  have hlt : ∀ q, row = some q → bx + 1 ≤ q := fun q hq => by
    rcases hr with e | e
    · rw [e] at hq; exact (h.keys.lt q hq).1
    · rw [e] at hq
      obtain ⟨cs, hcs, _⟩ := h.kids
      exact (hcs.lt q hq).1
  refine ⟨(hg.block bx hb2 (fun e => by have := hlt bx e.symm; omega)).trans h.out, Below.grown h.in2 hg (by omega) (fun q hq => by have := hlt q hq; omega)⟩

/-- Through a call that leaves what was; through an allocation. -/
theorem Ct.below {w : World} {X : Obj} {bx : Nat} {ks : List Int} {l : List T} {kv vv : Value} {wr w1 : World} (h : Ct w X bx ks l kv vv wr) (hb : Below wr.heap.size wr w1) : Ct w X bx ks l kv vv w1 := by
  have hb2 := h.bx2
  have hb1 := h.bx1
  exact ⟨h.in2.next hb, hb1, by have := hb.size; omega, (hb.block bx hb2).trans h.out, own_below h.keys hb, h.kids.below hb⟩
theorem Ct.alloc {w : World} {X : Obj} {bx : Nat} {ks : List Int} {l : List T} {kv vv : Value} {wr : World} (h : Ct w X bx ks l kv vv wr) (o : Obj) : Ct w X bx ks l kv vv (wr.alloc o) := by
  have hb2 := h.bx2
  have hb1 := h.bx1
  exact ⟨Below.alloc h.in2 (by omega) o, hb1, by simp; omega, (heap_alloc_old o hb2).trans h.out, h.keys.alloc o, h.kids.alloc o⟩
theorem Ct.drew {w : World} {X : Obj} {bx : Nat} {ks : List Int} {l : List T} {kv vv : Value} {wr : World} (h : Ct w X bx ks l kv vv wr) : Ct w X bx ks l kv vv wr.drew :=
  ⟨h.in2.drew, h.bx1, h.bx2, h.out, h.keys.drew, h.kids.drew⟩

theorem cutK_I64 (keys : List Int) (fr til : Int) (h0 : 0 ≤ fr) (h1 : til ≤ 1000000000) : ∀ k, ∀ x ∈ cutK keys fr til k, I64 x
  | 0, x, h => by simp [cutK] at h
  | k + 1, x, h => by
    rw [cutK, List.mem_append] at h
    rcases h with h | h
    · exact cutK_I64 keys fr til h0 h1 k x h
    · split at h
      · rename_i e
        unfold inB at e
        simp only [Bool.and_eq_true, decide_eq_true_eq] at e
        simp only [List.mem_singleton] at h
        subst h
        unfold I64
        omega
      · simp at h

/-- What the call makes from here on lies off the boxes and rows. -/
theorem Ct.apart {w : World} {X : Obj} {bx : Nat} {ks : List Int} {l : List T} {kv vv : Value} {wr : World} (h : Ct w X bx ks l kv vv wr) (b : Nat) (hb : wr.heap.size ≤ b) : Off kv vv w.heap.size bx b := by
  obtain ⟨cs, hcs, _⟩ := h.kids
  have hb2 := h.bx2
  refine ⟨fun e => ?_, fun e => ?_, by omega⟩
  · have := (h.keys.lt b e.symm).2; omega
  · have := (hcs.lt b e.symm).2; omega

theorem moved_of {w : World} {v : Value} {gg n cap : Nat} (h : v.ownBlock = some gg ∨ gg = w.heap.size) : Moved w v (.slice (some ⟨gg, 0, none⟩) n cap) := by
  rcases h with h | h
  · exact .inl (by rw [h]; rfl)
  · exact .inr ⟨gg, rfl, by omega⟩
end Go.Proofs.YtfbeeaibejggdaaDoor
/- value.Cut where it tells an error. -/
namespace Go.Proofs.YtfbeeaibejggdaaDoor
open Go.RowKit Go.Lib

theorem In2.ofBelow {w w1 : World} {X Y : Obj} (h : Below ((w.alloc X).alloc Y).heap.size ((w.alloc X).alloc Y) w1) : In2 w X Y w1 := Below.mono h (by simp)

/-- The answer's cell behind the stores. -/
theorem zero_stored {w w1 : World} {X : Obj} (h : In2 w X (.cells zero25 25 (0, 0)) w1) : w1.heap[w.heap.size + 1]? = some (.cells zero25 25 (0, 0)) := by
  have := heap_alloc_new (w.alloc X) (.cells zero25 25 (0, 0))
  rw [Below.block h _ (by omega)]
  simpa using this

set_option maxRecDepth 100000 in
set_option maxHeartbeats 1600000 in
theorem cut_bad (t : T) (v : Value) (fr til : Int) (w : World) (hr : Rep w t v) (hl : HasLaid w) (hc : costT t ≤ 3000) (hv : validB t = false) : Calls Tryd.prog 31 #[v, .int .i64 fr, .int .i64 til] w (CutPost t fr til w) := by
  have hr0 := hr
  obtain ⟨ka, va, kc, vc, rfl, _, _, _, _, _, _, _⟩ := rep_agg hr
  have hW : Same w ((w.alloc (.cells #[.int .i64 t.kind, .int .i64 t.n, .string t.s, .slice ka t.keys.length kc, .slice va t.kids.length vc] 25)).alloc (.cells #[.int .i64 0, .int .i64 0, .string ⟨#[]⟩, .slice none 0 0, .slice none 0 0] 25)) :=
    Same.of_below (((Below.refl _ w).alloc (Nat.le_refl _) _).alloc (by simp) _)
  have hm := valid_any t _ _ (Rep.mono hW _ _ hr0) (hl.mono hW) hc
  rw [hv] at hm
  have hV : Hid (cutV t fr til = (zeroT, 1)) := Lib.hid (by rw [cutV, hv]; rfl)
  clear hv hW
  go_enter Tryd.func31, Tryd.ntmps31
  go_wp2_with (go_at_call 16; refine hm.mono ?_; rintro e w1 ⟨rfl, hb1⟩; have hi := In2.ofBelow hb1; obtain ⟨⟨b0, b1, b2, b3, b4⟩, d0, d1, d2, d3, d4⟩ := five_all (zero_stored hi))
  refine bodyPost_ret (v := .tuple #[.agg #[.int .i64 0, .int .i64 0, .string ⟨#[]⟩, .slice none 0 0, .slice none 0 0], .int .i64 1]) (by simp [results, Tryd.results31, go_sem, b0, b1, b2, b3, b4]) rfl ⟨0, 0, ⟨#[]⟩, none, 0, 0, none, 0, 0, by rw [hV.out], by rw [hV.out]; exact zero_rep _, ?_⟩
  exact ((((hi.out.setCell (by simp) _).setCell (by simp) _).setCell (by simp) _).setCell (by simp) _).setCell (by simp) _

set_option maxRecDepth 100000 in
set_option maxHeartbeats 1600000 in
theorem cut_other (t : T) (v : Value) (fr til : Int) (w : World) (hr : Rep w t v) (hl : HasLaid w) (hc : costT t ≤ 3000) (hv : validB t = true) (hk : t.kind ≠ 10) : Calls Tryd.prog 31 #[v, .int .i64 fr, .int .i64 til] w (CutPost t fr til w) := by
  have hr0 := hr
  obtain ⟨ka, va, kc, vc, rfl, _, _, _, _, _, _, _⟩ := rep_agg hr
  have hW : Same w ((w.alloc (.cells #[.int .i64 t.kind, .int .i64 t.n, .string t.s, .slice ka t.keys.length kc, .slice va t.kids.length vc] 25)).alloc (.cells #[.int .i64 0, .int .i64 0, .string ⟨#[]⟩, .slice none 0 0, .slice none 0 0] 25)) :=
    Same.of_below (((Below.refl _ w).alloc (Nat.le_refl _) _).alloc (by simp) _)
  have hm := valid_any t _ _ (Rep.mono hW _ _ hr0) (hl.mono hW) hc
  rw [hv] at hm
  have hV : Hid (cutV t fr til = (zeroT, 10)) := Lib.hid (by rw [cutV, hv, if_pos rfl, if_neg hk])
  have hk' : (t.kind != 10) = true := by simp [hk]
  clear hv hW hk
  go_enter Tryd.func31, Tryd.ntmps31
  go_wp2_with (go_at_call 16; refine hm.mono ?_; rintro e w1 ⟨rfl, hb1⟩; have hi := In2.ofBelow hb1; obtain ⟨⟨b0, b1, b2, b3, b4⟩, d0, d1, d2, d3, d4⟩ := five_all (zero_stored hi); obtain ⟨⟨x0, x1, x2, x3, x4⟩, _⟩ := In2.cells (y0 := .int .i64 0) (y1 := .int .i64 0) (y2 := .string ⟨#[]⟩) (y3 := .slice none 0 0) (y4 := .slice none 0 0) hi)
  refine bodyPost_ret (v := .tuple #[.agg #[.int .i64 0, .int .i64 0, .string ⟨#[]⟩, .slice none 0 0, .slice none 0 0], .int .i64 10]) (by simp [results, Tryd.results31, go_sem, b0, b1, b2, b3, b4]) rfl ⟨0, 0, ⟨#[]⟩, none, 0, 0, none, 0, 0, by rw [hV.out], by rw [hV.out]; exact zero_rep _, ?_⟩
  exact ((((hi.out.setCell (by simp) _).setCell (by simp) _).setCell (by simp) _).setCell (by simp) _).setCell (by simp) _

set_option maxRecDepth 100000 in
set_option maxHeartbeats 1600000 in
theorem cut_range (t : T) (v : Value) (fr til : Int) (w : World) (hr : Rep w t v) (hl : HasLaid w) (hc : costT t ≤ 3000) (hv : validB t = true) (hk : t.kind = 10) (hx : fr < 0 ∨ til < fr ∨ 1000000000 < til) : Calls Tryd.prog 31 #[v, .int .i64 fr, .int .i64 til] w (CutPost t fr til w) := by
  have hr0 := hr
  obtain ⟨ka, va, kc, vc, rfl, _, _, _, _, _, _, _⟩ := rep_agg hr
  have hW : Same w ((w.alloc (.cells #[.int .i64 t.kind, .int .i64 t.n, .string t.s, .slice ka t.keys.length kc, .slice va t.kids.length vc] 25)).alloc (.cells #[.int .i64 0, .int .i64 0, .string ⟨#[]⟩, .slice none 0 0, .slice none 0 0] 25)) :=
    Same.of_below (((Below.refl _ w).alloc (Nat.le_refl _) _).alloc (by simp) _)
  have hm := valid_any t _ _ (Rep.mono hW _ _ hr0) (hl.mono hW) hc
  rw [hv] at hm
  have hV : Hid (cutV t fr til = (zeroT, 7)) := Lib.hid (by rw [cutV, hv, if_pos rfl, if_pos hk, if_pos hx])
  have hk' : (t.kind != 10) = false := by simp [hk]
  obtain ⟨kd, hkd⟩ : ∃ kd, t.kind = kd := ⟨_, rfl⟩
  rw [hkd] at hm hk'
  clear hv hW hk
  by_cases h1 : fr < 0
  · clear hx
    rw [hkd]
    clear hkd
    go_enter Tryd.func31, Tryd.ntmps31
    go_wp2_with (go_at_call 16; refine hm.mono ?_; rintro e w1 ⟨rfl, hb1⟩; have hi := In2.ofBelow hb1; obtain ⟨⟨b0, b1, b2, b3, b4⟩, d0, d1, d2, d3, d4⟩ := five_all (zero_stored hi); obtain ⟨⟨x0, x1, x2, x3, x4⟩, _⟩ := In2.cells (y0 := .int .i64 0) (y1 := .int .i64 0) (y2 := .string ⟨#[]⟩) (y3 := .slice none 0 0) (y4 := .slice none 0 0) hi)
    refine bodyPost_ret (v := .tuple #[.agg #[.int .i64 0, .int .i64 0, .string ⟨#[]⟩, .slice none 0 0, .slice none 0 0], .int .i64 7]) (by simp [results, Tryd.results31, go_sem, b0, b1, b2, b3, b4]) rfl ⟨0, 0, ⟨#[]⟩, none, 0, 0, none, 0, 0, by rw [hV.out], by rw [hV.out]; exact zero_rep _, ?_⟩
    exact ((((hi.out.setCell (by simp) _).setCell (by simp) _).setCell (by simp) _).setCell (by simp) _).setCell (by simp) _
  · by_cases h2 : til < fr
    · clear hx
      rw [hkd]
      clear hkd
      go_enter Tryd.func31, Tryd.ntmps31
      go_wp2_with (go_at_call 16; refine hm.mono ?_; rintro e w1 ⟨rfl, hb1⟩; have hi := In2.ofBelow hb1; obtain ⟨⟨b0, b1, b2, b3, b4⟩, d0, d1, d2, d3, d4⟩ := five_all (zero_stored hi); obtain ⟨⟨x0, x1, x2, x3, x4⟩, _⟩ := In2.cells (y0 := .int .i64 0) (y1 := .int .i64 0) (y2 := .string ⟨#[]⟩) (y3 := .slice none 0 0) (y4 := .slice none 0 0) hi)
      refine bodyPost_ret (v := .tuple #[.agg #[.int .i64 0, .int .i64 0, .string ⟨#[]⟩, .slice none 0 0, .slice none 0 0], .int .i64 7]) (by simp [results, Tryd.results31, go_sem, b0, b1, b2, b3, b4]) rfl ⟨0, 0, ⟨#[]⟩, none, 0, 0, none, 0, 0, by rw [hV.out], by rw [hV.out]; exact zero_rep _, ?_⟩
      exact ((((hi.out.setCell (by simp) _).setCell (by simp) _).setCell (by simp) _).setCell (by simp) _).setCell (by simp) _
    · have h3 : 1000000000 < til := by omega
      clear hx
      rw [hkd]
      clear hkd
      go_enter Tryd.func31, Tryd.ntmps31
      go_wp2_with (go_at_call 16; refine hm.mono ?_; rintro e w1 ⟨rfl, hb1⟩; have hi := In2.ofBelow hb1; obtain ⟨⟨b0, b1, b2, b3, b4⟩, d0, d1, d2, d3, d4⟩ := five_all (zero_stored hi); obtain ⟨⟨x0, x1, x2, x3, x4⟩, _⟩ := In2.cells (y0 := .int .i64 0) (y1 := .int .i64 0) (y2 := .string ⟨#[]⟩) (y3 := .slice none 0 0) (y4 := .slice none 0 0) hi)
      refine bodyPost_ret (v := .tuple #[.agg #[.int .i64 0, .int .i64 0, .string ⟨#[]⟩, .slice none 0 0, .slice none 0 0], .int .i64 7]) (by simp [results, Tryd.results31, go_sem, b0, b1, b2, b3, b4]) rfl ⟨0, 0, ⟨#[]⟩, none, 0, 0, none, 0, 0, by rw [hV.out], by rw [hV.out]; exact zero_rep _, ?_⟩
      exact ((((hi.out.setCell (by simp) _).setCell (by simp) _).setCell (by simp) _).setCell (by simp) _).setCell (by simp) _
end Go.Proofs.YtfbeeaibejggdaaDoor
