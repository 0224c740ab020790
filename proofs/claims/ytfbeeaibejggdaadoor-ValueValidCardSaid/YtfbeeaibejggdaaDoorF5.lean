import Derived.Test.YtfbeeaibejggdaaDoorF4
namespace Go.Proofs.YtfbeeaibejggdaaDoor
open Go.RowKit

/-- What the writer does at the first k kids that have keys. -/
def keyedOut (keys : List Int) (kids : List T) : Nat → List Int
  | 0 => []
  | k + 1 => keyedOut keys kids k ++ (digs (IntKind.u64.wrap (keys.getD k 0)) 8 ++ (match kids[k]? with | some t => byt (writtenT t) | none => []))
theorem keyedOut_next (keys : List Int) (kids : List T) (k : Nat) (h : k < kids.length) :
    keyedOut keys kids (k + 1) = keyedOut keys kids k ++ digs (IntKind.u64.wrap (keys.getD k 0)) 8 ++ byt (writtenT kids[k]) := by
  rw [keyedOut, List.getElem?_eq_getElem h, List.append_assoc]
theorem keyedOut_mono (keys : List Int) (kids : List T) (j : Nat) : ∀ k, j ≤ k → (keyedOut keys kids j).length ≤ (keyedOut keys kids k).length := by
  intro k
  induction k with
  | zero => intro h; obtain rfl : j = 0 := by omega
            exact Nat.le_refl _
  | succ k ih =>
    intro h
    by_cases e : j = k + 1
    · subst e; exact Nat.le_refl _
    · have := ih (by omega)
      rw [keyedOut, List.length_append]; omega
theorem keyedOut_eight (keys : List Int) (kids : List T) (h : ∀ t ∈ kids, (byt (writtenT t)).length % 8 = 0) : ∀ k, k ≤ kids.length → (keyedOut keys kids k).length % 8 = 0 := by
  intro k
  induction k with
  | zero => intro _; rfl
  | succ k ih =>
    intro hk
    have h1 := ih (by omega)
    have h2 := h _ (List.getElem_mem (show k < kids.length by omega))
    rw [keyedOut_next keys kids k (by omega), List.length_append, List.length_append, digs_len]; omega

theorem Tryd.res58 : Tryd.f58.results = #[] := by kernel_rfl

theorem five_cells {w : World} {k : Nat} {c0 c1 c2 c3 c4 : Value} {t : TypeId} (h : w.heap[k]? = some (.cells #[c0, c1, c2, c3, c4] t (0, 0))) :
    w.cell? ⟨k, 0, none⟩ = some c0 ∧ w.cell? ⟨k, 1, none⟩ = some c1 ∧ w.cell? ⟨k, 2, none⟩ = some c2 ∧ w.cell? ⟨k, 3, none⟩ = some c3 ∧ w.cell? ⟨k, 4, none⟩ = some c4 := by
  refine ⟨?_, ?_, ?_, ?_, ?_⟩ <;> simp [World.cell?, h]

set_option maxRecDepth 100000 in
set_option maxHeartbeats 1600000 in
theorem keyed_any (tb : Obj) (kd n : Int) (s : ByteArray) (keys : List Int) (kids : List T) (v : Value) (W0 W : World) (bw bb B : Nat) (xs : List Int) (hr : Rep W0 (.mk kd n s keys kids) v) (hsm : Same W0 W) (h0 : W0.heap.size ≤ bw)
    (hbb : bb < B) (hbn : bb ≠ bw) (htb : W.heap[bb]? = some tb)
    (hW : Wr W bw bb B xs) (hx : xs.length % 8 = 0) (h8 : ∀ t ∈ kids, (byt (writtenT t)).length % 8 = 0) (hl : xs.length + (keyedOut keys kids kids.length).length ≤ 1000000) (hB : B ≤ W.heap.size)
    (hkk : keys.length = kids.length) (ih : ∀ j, (h : j < kids.length) → WroteAt tb kids[j]) :
    Calls Tryd.prog 58 #[.pointer (some ⟨bw, 0, none⟩), v] W fun e W' => e = .returned (.tuple #[]) ∧ Wr W' bw bb B (xs ++ keyedOut keys kids kids.length) ∧ Fr B bw W W' := by
  unfold Rep at hr
  obtain ⟨ka, va, kc, vc, rfl, _, _, _, _, hvl, hkeys, hkids⟩ := hr
  have hbw := hW.1
  have HKK := Lib.hid hkk
  clear hkk
  obtain ⟨box, hbox⟩ : ∃ box, box = Obj.cells #[.int .i64 kd, .int .i64 n, .string s, .slice ka keys.length kc, .slice va kids.length vc] 25 (0, 0) := ⟨_, rfl⟩
  have hnew := heap_alloc_new W box
  have hW1 := Lib.hid (hW.alloc hB box)
  have HF := Lib.hid (Fr.alloc B bw W box)
  have HI := Lib.hid ih
  have HT := Lib.hid htb
  have HS := Lib.hid hsm
  have H8 := Lib.hid h8
  clear hW ih htb hsm h8
  go_enter Tryd.func58, Tryd.ntmps58
  go_wp2_with fail
  go_loopw [9] (fun i wr => ∃ k : Nat, i = .int .i64 k ∧ k ≤ kids.length ∧ Wr wr bw bb B (xs ++ keyedOut keys kids k) ∧ Fr B bw (W.alloc box) wr) (fun i _ => kids.length - (intOf i).toNat)
  case atStart => exact ⟨0, rfl, Nat.zero_le _, by subst hbox; simpa [keyedOut] using hW1.out, by subst hbox; exact Fr.refl _ _ _⟩
  case round =>
    obtain ⟨k, rfl, hk, hWr, hfr⟩ := hrel
    have hBr : B ≤ wr.heap.size := by have := hfr.size; simp at this; omega
    by_cases hlt : k < kids.length
    · have hfr2 := HF.out.trans hfr
      obtain ⟨b, off, v0, v1, v2, v3, v4, rfl, g0, g1, g2, g3, g4, hrk⟩ := KidsIn.at kids 0 k hlt hkids
      simp only [Nat.zero_add] at g0 g1 g2 g3 g4
      obtain ⟨kk, kn, ks, sa, sb, sc, ta, tb', tc, rfl, rfl, rfl, rfl, rfl⟩ := rep_fields hrk
      have hsw : Same W0 wr := HS.out.fr hfr2 h0 hbw hB
      have q0 := hsw.cell g0
      have q1 := hsw.cell g1
      have q2 := hsw.cell g2
      have q3 := hsw.cell g3
      have q4 := hsw.cell g4
      have hsn := keyedOut_next keys kids k hlt
      obtain ⟨key, hkey⟩ : ∃ x, keys.getD k 0 = x := ⟨_, rfl⟩
      rw [hkey] at hsn
      have hlk := keyedOut_mono keys kids (k + 1) kids.length (by omega)
      have hl3 : (keyedOut keys kids (k + 1)).length = (keyedOut keys kids k).length + 8 + (byt (writtenT kids[k])).length := by rw [hsn, List.length_append, List.length_append, digs_len]
      have h8k := keyedOut_eight keys kids H8.out k hk
      have htb2 := hfr2.old hbb hbn HT.out
      obtain ⟨bk, ok, rfl, kc0, kI⟩ := hkeys k (by rw [HKK.out]; exact hlt)
      rw [hkey] at kc0 kI
      have kc1 := hsw.cell kc0
      have kcA : ∀ o, (wr.alloc o).cell? ⟨bk, ok + k, none⟩ = some (.int .i64 key) := fun o => (World.cell?_of_block (heap_alloc_old _ (World.block_lt_of_cell? wr _ kc1))).trans kc1
      have hbx : wr.heap[W.heap.size]? = some box := by subst hbox; exact hfr.boxed (by omega) hnew
      have hszb : W.heap.size < wr.heap.size := (Array.getElem?_eq_some_iff.1 hbx).1
      have c3 : wr.cell? ⟨W.heap.size, 3, none⟩ = some (.slice (some ⟨bk, ok, none⟩) keys.length kc) := by subst hbox; simp [World.cell?, hbx]
      have cA3 : ∀ o, (wr.alloc o).cell? ⟨W.heap.size, 3, none⟩ = some (.slice (some ⟨bk, ok, none⟩) keys.length kc) := fun o => (World.cell?_of_block (heap_alloc_old _ hszb)).trans c3
      have hkb := heap_alloc_new wr (.cells #[.int .i64 kk, .int .i64 kn, .string ks, .slice sa sb sc, .slice ta tb' tc] 25)
      have hnum := number_any key 8 bw bb B (xs ++ keyedOut keys kids k) (wr.alloc (.cells #[.int .i64 kk, .int .i64 kn, .string ks, .slice sa sb sc, .slice ta tb' tc] 25)) (hWr.alloc hBr _) (by rw [List.length_append]; omega) (by omega) (by simp; omega)
      have hsA : Same W0 (wr.alloc (.cells #[.int .i64 kk, .int .i64 kn, .string ks, .slice sa sb sc, .slice ta tb' tc] 25)) := fun a ha => by rw [← hsw a ha]; exact World.cell?_of_block (heap_alloc_old _ (by have := hfr2.size; omega))
      have htA := (heap_alloc_old (.cells #[.int .i64 kk, .int .i64 kn, .string ks, .slice sa sb sc, .slice ta tb' tc] 25) (show bb < wr.heap.size by omega)).trans htb2
      have hcall : ∀ w1, Wr w1 bw bb B (xs ++ keyedOut keys kids k ++ digs (IntKind.u64.wrap key) 8) → Fr B bw (wr.alloc (.cells #[.int .i64 kk, .int .i64 kn, .string ks, .slice sa sb sc, .slice ta tb' tc] 25)) w1 →
          Calls Tryd.prog 35 #[.pointer (some ⟨bw, 0, none⟩), .agg #[.int .i64 kk, .int .i64 kn, .string ks, .slice sa sb sc, .slice ta tb' tc]] w1 fun e w2 => e = .returned (.tuple #[]) ∧ Wr w2 bw bb B (xs ++ keyedOut keys kids (k + 1)) ∧ Fr B bw (W.alloc box) w2 := by
        intro w1 hw1 hf1
        refine (HI.out k hlt _ W0 w1 bw bb B _ hrk (hsA.fr hf1 h0 hbw (by simp; omega)) h0 hbb hbn (hf1.old hbb hbn htA) hw1 (by rw [List.length_append, List.length_append, digs_len]; omega)
          (by rw [List.length_append, List.length_append, digs_len]; omega) (by have := hf1.size; simp at this; omega)).mono ?_
        rintro e w2 ⟨rfl, g1, g2⟩
        refine ⟨rfl, ?_, hfr.trans ((Fr.alloc B bw wr _).trans (hf1.trans g2))⟩
        rw [hsn, ← List.append_assoc, ← List.append_assoc]; exact g1
      have hkv := Nat.lt_of_lt_of_eq hlt HKK.out.symm
      have hne2 : wr.heap.size ≠ bw := by omega
      clear hsn hfr hfr2 hsw hWr hlk h8k htb2 hsA htA hl3 hl
      go_wp2_with (first
        | (go_at_call 52; refine hnum.mono ?_; rintro e w1 ⟨rfl, hw1, hf1⟩; obtain ⟨z0, z1, z2, z3, z4⟩ := five_cells (hf1.boxed hne2 hkb))
        | (go_at_call 35; refine (hcall _ hw1 hf1).mono ?_; rintro e w2 ⟨rfl, hw2, hf2⟩))
      exact ⟨⟨k + 1, rfl, by omega, hw2, hf2⟩, by simp [intOf]; omega⟩
    · obtain rfl : k = kids.length := by omega
      have H1 := Lib.hid hWr
      have H2 := Lib.hid (HF.out.trans hfr)
      clear hWr hfr
      go_wp2_with fail
      exact void_end Tryd.res58 rfl ⟨rfl, H1.out, H2.out⟩
end Go.Proofs.YtfbeeaibejggdaaDoor
