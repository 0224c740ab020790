import Derived.Test.YtfbeeaibejggdaaDoorF3
import Derived.Test.YtfbeeaibejggdaaDoorA8
namespace Go.Proofs.YtfbeeaibejggdaaDoor
open Go.RowKit

theorem Wr.alloc {W : World} {bw bb B : Nat} {xs : List Int} (h : Wr W bw bb B xs) (hB : B ≤ W.heap.size) (o : Obj) : Wr (W.alloc o) bw bb B xs := by
  obtain ⟨hb, v, hh, hown⟩ := h
  exact ⟨hb, v, (heap_alloc_old o (by omega)).trans hh, hown.alloc _⟩
theorem Fr.alloc (B bw : Nat) (W : World) (o : Obj) : Fr B bw W (W.alloc o) :=
  ⟨rfl, rfl, rfl, by simp, fun _ hk _ _ => heap_alloc_old o hk⟩
theorem Same.fr {W0 W W' : World} {B bw : Nat} (h : Same W0 W) (hf : Fr B bw W W') (h0 : W0.heap.size ≤ bw) (hb : bw < B) (hB : B ≤ W.heap.size) : Same W0 W' := fun a ha => by
  rw [← h a ha]
  exact World.cell?_of_block (hf.block a.block (by omega) (by omega) (.inl (by omega)))
theorem Fr.old {B bw k : Nat} {W W' : World} {o : Obj} (h : Fr B bw W W') (hk : k < B) (hne : k ≠ bw) (hh : W.heap[k]? = some o) : W'.heap[k]? = some o :=
  (h.block k (Array.getElem?_eq_some_iff.1 hh).1 hne (.inl hk)).trans hh
theorem Fr.boxed {B bw k : Nat} {W W' : World} {cs : Array Value} (h : Fr B bw W W') (hne : k ≠ bw) (hh : W.heap[k]? = some (.cells cs 25 (0, 0))) : W'.heap[k]? = some (.cells cs 25 (0, 0)) :=
  (h.block k (Array.getElem?_eq_some_iff.1 hh).1 hne (.inr fun c e => by rw [hh] at e; simp at e)).trans hh

/-- What the writer does at a value. -/
def WroteAt (tb : Obj) (t : T) : Prop := ∀ (v : Value) (W0 W : World) (bw bb B : Nat) (xs : List Int), Rep W0 t v → Same W0 W → W0.heap.size ≤ bw → bb < B → bb ≠ bw → W.heap[bb]? = some tb →
  Wr W bw bb B xs → xs.length % 8 = 0 → xs.length + (byt (writtenT t)).length ≤ 1000000 → B ≤ W.heap.size →
  Calls Tryd.prog 35 #[.pointer (some ⟨bw, 0, none⟩), v] W fun e W' => e = .returned (.tuple #[]) ∧ Wr W' bw bb B (xs ++ byt (writtenT t)) ∧ Fr B bw W W'

def kidsOut (l : List T) : List Int := (l.map fun t => byt (writtenT t)).flatten
theorem kidsOut_snoc (l : List T) (t : T) : kidsOut (l ++ [t]) = kidsOut l ++ byt (writtenT t) := by simp [kidsOut]
theorem kidsOut_take (l : List T) (k : Nat) : (kidsOut (l.take k)).length ≤ (kidsOut l).length := by
  conv => rhs; rw [← List.take_append_drop k l]
  simp only [kidsOut, List.map_append, List.flatten_append, List.length_append]; omega
theorem kidsOut_eight (l : List T) (h : ∀ t ∈ l, (byt (writtenT t)).length % 8 = 0) : (kidsOut l).length % 8 = 0 := by
  induction l with
  | nil => rfl
  | cons t r ih =>
    have h1 := h t (by simp)
    have h2 := ih fun x hx => h x (by simp [hx])
    simp only [kidsOut, List.map_cons, List.flatten_cons, List.length_append] at *
    omega

theorem rep_fields {w : World} {t : T} {v0 v1 v2 v3 v4 : Value} (h : Rep w t (.agg #[v0, v1, v2, v3, v4])) :
    ∃ k n s a b c d e f, v0 = .int .i64 k ∧ v1 = .int .i64 n ∧ v2 = .string s ∧ v3 = .slice a b c ∧ v4 = .slice d e f := by
  obtain ⟨kd, n, s, keys, kids⟩ := t
  unfold Rep at h
  obtain ⟨ka, va, kc, vc, hv, _⟩ := h
  injection hv with hv
  have e0 : v0 = .int .i64 kd := by have := congrArg (fun x : Array Value => x[0]!) hv; simpa using this
  have e1 : v1 = .int .i64 n := by have := congrArg (fun x : Array Value => x[1]!) hv; simpa using this
  have e2 : v2 = .string s := by have := congrArg (fun x : Array Value => x[2]!) hv; simpa using this
  have e3 : v3 = .slice ka keys.length kc := by have := congrArg (fun x : Array Value => x[3]!) hv; simpa using this
  have e4 : v4 = .slice va kids.length vc := by have := congrArg (fun x : Array Value => x[4]!) hv; simpa using this
  exact ⟨_, _, _, _, _, _, _, _, _, e0, e1, e2, e3, e4⟩

theorem Tryd.res55 : Tryd.f55.results = #[] := by kernel_rfl

set_option maxRecDepth 100000 in
set_option maxHeartbeats 1600000 in
theorem kids_any (tb : Obj) (kd n : Int) (s : ByteArray) (keys : List Int) (kids : List T) (v : Value) (W0 W : World) (bw bb B : Nat) (xs : List Int) (hr : Rep W0 (.mk kd n s keys kids) v) (hsm : Same W0 W) (h0 : W0.heap.size ≤ bw)
    (hbb : bb < B) (hbn : bb ≠ bw) (htb : W.heap[bb]? = some tb)
    (hW : Wr W bw bb B xs) (hx : xs.length % 8 = 0) (h8 : ∀ t ∈ kids, (byt (writtenT t)).length % 8 = 0) (hl : xs.length + (kidsOut kids).length ≤ 1000000) (hB : B ≤ W.heap.size)
    (ih : ∀ j, (h : j < kids.length) → WroteAt tb kids[j]) :
    Calls Tryd.prog 55 #[.pointer (some ⟨bw, 0, none⟩), v] W fun e W' => e = .returned (.tuple #[]) ∧ Wr W' bw bb B (xs ++ kidsOut kids) ∧ Fr B bw W W' := by
  unfold Rep at hr
  obtain ⟨ka, va, kc, vc, rfl, _, _, _, _, hvl, _, hkids⟩ := hr
  have hbw := hW.1
  obtain ⟨box, hbox⟩ : ∃ box, box = Obj.cells #[.int .i64 kd, .int .i64 n, .string s, .slice ka keys.length kc, .slice va kids.length vc] 25 (0, 0) := ⟨_, rfl⟩
  have hnew := heap_alloc_new W box
  have hW1 := Lib.hid (hW.alloc hB box)
  have HF := Lib.hid (Fr.alloc B bw W box)
  have HI := Lib.hid ih
  have HT := Lib.hid htb
  have HS := Lib.hid hsm
  have H8 := Lib.hid h8
  clear hW ih htb hsm h8
  go_enter Tryd.func55, Tryd.ntmps55
  go_wp2_with fail
  go_loopw [9] (fun i wr => ∃ k : Nat, i = .int .i64 k ∧ k ≤ kids.length ∧ Wr wr bw bb B (xs ++ kidsOut (kids.take k)) ∧ Fr B bw (W.alloc box) wr) (fun i _ => kids.length - (intOf i).toNat)
  case atStart => exact ⟨0, rfl, Nat.zero_le _, by subst hbox; simpa [kidsOut] using hW1.out, by subst hbox; exact Fr.refl _ _ _⟩
  case round =>
    obtain ⟨k, rfl, hk, hWr, hfr⟩ := hrel
    have hBr : B ≤ wr.heap.size := by have := hfr.size; simp at this; omega
    by_cases hlt : k < kids.length
    · have hfr2 := HF.out.trans hfr
      obtain ⟨b, off, v0, v1, v2, v3, v4, rfl, g0, g1, g2, g3, g4, hrk⟩ := KidsIn.at kids 0 k hlt hkids
      simp only [Nat.zero_add] at g0 g1 g2 g3 g4
      obtain ⟨kk, kn, ks, sa, sb, sc, ta, tb', tc, rfl, rfl, rfl, rfl, rfl⟩ := rep_fields hrk
      have hsw : Same W0 wr := HS.out.fr hfr2 h0 hbw hB
      have q0 := hsw.cell g0
      have q1 := hsw.cell g1
      have q2 := hsw.cell g2
      have q3 := hsw.cell g3
      have q4 := hsw.cell g4
      have hsn := kidsOut_snoc (kids.take k) kids[k]
      rw [← take_next kids k hlt] at hsn
      have hlk := kidsOut_take kids (k + 1)
      have h8k := kidsOut_eight (kids.take k) fun t ht => H8.out t (List.mem_of_mem_take ht)
      have htb2 := hfr2.old hbb hbn HT.out
      have hcall := HI.out k hlt _ W0 (wr.alloc (.cells #[.int .i64 kk, .int .i64 kn, .string ks, .slice sa sb sc, .slice ta tb' tc] 25)) bw bb B (xs ++ kidsOut (kids.take k)) hrk
        (fun a ha => by rw [← hsw a ha]; exact World.cell?_of_block (heap_alloc_old _ (by have := hfr2.size; have := hfr2.block; omega))) h0 hbb hbn
        ((heap_alloc_old _ (by omega)).trans htb2) (hWr.alloc hBr _) (by rw [List.length_append]; omega) (by rw [List.length_append, Nat.add_assoc, ← List.length_append, ← hsn]; omega) (by simp; omega)
      have Hsn := Lib.hid hsn
      have Hfr := Lib.hid hfr
      clear hsn hfr hfr2 hsw hWr hlk h8k htb2
      go_wp2_with (go_at_call 35; refine hcall.mono ?_; rintro e w1 ⟨rfl, hw1, hf1⟩)
      exact ⟨⟨k + 1, rfl, by omega, by rw [Hsn.out, ← List.append_assoc]; exact hw1, Hfr.out.trans ((Fr.alloc B bw wr _).trans hf1)⟩, by simp [intOf]; omega⟩
    · obtain rfl : k = kids.length := by omega
      rw [List.take_length] at hWr
      have H1 := Lib.hid hWr
      have H2 := Lib.hid (HF.out.trans hfr)
      clear hWr hfr
      go_wp2_with fail
      exact void_end Tryd.res55 rfl ⟨rfl, H1.out, H2.out⟩
end Go.Proofs.YtfbeeaibejggdaaDoor
