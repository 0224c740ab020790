/- Copy; Mute, where all fits. -/
import Derived.Test.YthfagnbecocgdaaSH
namespace Go.Proofs.Ythfagnbecocgdaa
open Go.RowKit Go.Shelf Go.Deep

theorem Try.info80 : (Try.prog.info? 80).map (fun i => (i.zero, i.size, i.bytes)) = some (some (.agg #[.int .i64 0, .int .i64 0, .int .i64 0, .int .i64 0, .int .i64 0, .bool false]), 6, 48) := by kernel_rfl
theorem Try.underlying81 : Try.prog.underlying 81 = some (.slice 80) := by kernel_rfl
def chCells (cs : List Ch) : List Value := (List.range (cs.length * 6)).map fun k => (chAt cs (k / 6)).val (k % 6)
theorem val_one (c : Ch) (k : Nat) : (c.val k).oneCell' = true := by
  match k with | 0 => rfl | 1 => rfl | 2 => rfl | 3 => rfl | 4 => rfl | k + 5 => rfl
def CopyAns (cs : List Ch) (w : World) (e : Ending) (w' : World) : Prop := ∃ P R, e = .returned (.pointer (some ⟨P, 0, none⟩)) ∧ VolAt P R cs w' ∧ (w.heap.size ≤ P ∧ w.heap.size ≤ R) ∧ Below w.heap.size w w'
def CloneAns (cs : List Ch) (w : World) (e : Ending) (w' : World) : Prop := ∃ R cap G N, e = .returned (.slice (some ⟨R, 0, none⟩) cs.length cap) ∧ w.heap.size ≤ R ∧ w'.rowIs R 80 N G ∧ 6 * cs.length ≤ N ∧ (∀ i, i < cs.length → ∀ j, j < 6 → G (i * 6 + j) = (chAt cs i).val j) ∧ Below w.heap.size w w'
set_option maxRecDepth 100000 in
theorem clone67_any (P R cap : Nat) (cs : List Ch) (w : World) (h : VolAt P R cs w) (h1 : 1 ≤ cs.length) (h8 : cs.length ≤ 8) : Calls Try.prog 67 #[.slice (some ⟨R, 0, none⟩) cs.length cap] w (CloneAns cs w) := by
  obtain ⟨i1, hi1, hy0, hy1, hy2⟩ := info_parts Try.info80
  have hcells : ∀ k, k < cs.length * 6 → w.cell? ⟨R, k, none⟩ = some ((chAt cs (k / 6)).val (k % 6)) := fun k hk => by
    have := h.cell (i := k / 6) (j := k % 6) (by omega) (by omega)
    rwa [show k / 6 * 6 + k % 6 = k by omega] at this
  have HC := Lib.hid (fun k hk => (Same.alloc w (.cells #[] 80)).cell (hcells k hk))
  have hE : (w.alloc (.cells #[] 80)).ownsRow w.heap.size 80 6 (.slice (some ⟨w.heap.size, 0, none⟩) 0 0) 0 [] := World.ownsRow_made (base := w.heap.size) (size := 6) (e := 80) w #[] 0 (Nat.le_refl _) (by simp) (by simp)
  have hlen : (chCells cs).length = cs.length * 6 := by simp [chCells]
  have hat : ∀ k, k < cs.length * 6 → (chCells cs)[k]? = some ((chAt cs (k / 6)).val (k % 6)) := fun k hk => by simp [chCells, hk]
  have HAT := Lib.hid hat
  have hone : ∀ u ∈ chCells cs, u.oneCell' = true := fun u hu => by
    unfold chCells at hu
    obtain ⟨k, _, rfl⟩ := List.mem_map.1 hu
    exact val_one _ _
  obtain ⟨L, hL⟩ : ∃ L, cs.length = L := ⟨_, rfl⟩
  unfold CloneAns
  rw [hL] at hlen HC HAT h8 h1 ⊢
  generalize chCells cs = X at *
  have HLEN := Lib.hid hlen
  have HONE := Lib.hid hone
  clear hcells h hat hlen hone hL
  have hnil : ∀ (p : Addr) (n c : Nat) (x : World), (binOp .eql 81 (.slice (some p) n c) (.slice none 0 0)).run Try.prog x = .ok (.bool false) x := fun _ _ _ _ => by kernel_rfl
  go_enter Try.func67, Try.ntmps67
  go_wp2_with (at_builtin; refine wpList_append_moves rfl (.tmp 5) (.tmp 6) 81 rfl w.heap.size 80 i1 _ 6 48 Try.underlying81 hi1 hy0 hy1 hy2 rfl (by decide) (.slice (some ⟨w.heap.size, 0, none⟩) 0 0) 0 [] rfl hE ⟨R, 0, none⟩ L cap X rfl HLEN.out ?c1 ?c2 ?c3 ?c4 ?c5 ?_)
  case c1 =>
    intro j x hx
    have hj : j < L * 6 := by
      have := (List.getElem?_eq_some_iff.1 hx).1
      rwa [HLEN.out] at this
    rw [HAT.out j hj] at hx
    cases hx
    rw [add_at, Nat.zero_add]
    exact HC.out j hj
  case c2 => exact HONE.out
  case c3 => unfold maxLen; omega
  case c4 => omega
  case c5 => simp
  intro v2 w2 h21 h22 h23
  have hb : Below w.heap.size w w2 := ((Below.refl _ w).alloc (Nat.le_refl _) _).grown h22 (by simp) (fun k e => by cases e; exact Nat.le_refl _)
  obtain ⟨R2, cap2, cur, rfl, hr2, hg2, hn2, _, hcs, htk⟩ : ∃ g cap cur, v2 = .slice (some ⟨g, 0, none⟩) L cap ∧ w.heap.size ≤ g ∧ w2.heap[g]? = some (.cells cur 80 (0, 0)) ∧ L ≤ cap ∧ cap ≤ maxLen ∧ cur.size = cap * 6 ∧ cur.toList.take (L * 6) = X := by
    rcases h21.2 with ⟨_, h0⟩ | h
    · omega
    · exact h
  have HF : Hid (∃ G N, w2.rowIs R2 80 N G ∧ 6 * L ≤ N ∧ (∀ i, i < L → ∀ j, j < 6 → G (i * 6 + j) = (chAt cs i).val j)) := Lib.hid ⟨fun k => cur.getD k undef, cap2 * 6, ⟨cur, hg2, hcs, fun i hi => by simp [Array.getD, show i < cur.size by omega]⟩, by omega, fun i hi j hj => by
    have h1 : (cur.toList.take (L * 6))[i * 6 + j]? = X[i * 6 + j]? := by rw [htk]
    rw [HAT.out _ (by omega), List.getElem?_take, if_pos (by omega)] at h1
    rw [show (i * 6 + j) / 6 = i by omega, show (i * 6 + j) % 6 = j by omega] at h1
    simp only [Array.getElem?_toList] at h1
    simp [h1]⟩
  have HB := Lib.hid hb
  have HR2 := Lib.hid hr2
  clear h21 h22 h23 hb hg2 hcs htk hE hn2 hr2
  go_wp2_with fail
  go_ret
  obtain ⟨G, N, f1, f2, f3⟩ := HF.out
  exact ⟨R2, cap2, G, N, rfl, HR2.out, f1, f2, f3, HB.out⟩
set_option maxRecDepth 100000 in
theorem copy_any (P R : Nat) (cs : List Ch) (w : World) (h : VolAt P R cs w) (h1 : 1 ≤ cs.length) (h8 : cs.length ≤ 8) : Calls Try.prog 15 #[.pointer (some ⟨P, 0, none⟩)] w (CopyAns cs w) := by
  obtain ⟨cap, htop⟩ := h.top
  have h67 := clone67_any P R cap cs w h h1 h8
  unfold CloneAns at h67
  obtain ⟨L, hL⟩ : ∃ L, cs.length = L := ⟨_, rfl⟩
  rw [hL] at htop h67
  have HL := Lib.hid hL
  clear h hL
  go_enter Try.func15, Try.ntmps15
  go_wp2_with (go_at_call 67; (with_reducible refine h67.mono ?_); rintro e w1 ⟨R2, cap2, G, N, rfl, hr2, f1, f2, f3, hb⟩; have HF := Lib.hid (And.intro hr2 (And.intro f1 (And.intro f2 f3))); have HB := Lib.hid hb; clear hr2 f1 f2 f3 hb)
  go_ret
  obtain ⟨hr2, f1, f2, f3⟩ := HF.out
  refine ⟨w1.heap.size, R2, rfl, ⟨⟨cap2, by simp [go_sem, HL.out]⟩, fun e => by have := f1.lt; omega, N, G, f1.alloc _, by rw [HL.out]; exact f2, by rw [HL.out]; exact f3⟩, ⟨HB.out.size, hr2⟩, HB.out.alloc HB.out.size _⟩
end Go.Proofs.Ythfagnbecocgdaa
