/- value.Encode is the document's. -/
import Derived.Test.YtfbeeaibejggdaaDoorE2
import Derived.Test.YtfbeeaibejggdaaDoorG4
namespace Go.Proofs.YtfbeeaibejggdaaDoor
open Go.RowKit

theorem strOf_byt (s : ByteArray) : strOfNums (byt s) = s := by
  obtain ⟨⟨l⟩⟩ := s
  unfold strOfNums byt
  simp only [List.map_map]
  congr 1
  congr 1
  conv => rhs; rw [← List.map_id l]
  apply List.map_congr_left
  intro b _
  simp

theorem Fr.below {B bw base : Nat} {W W' : World} (h : Fr B bw W W') (hb : base ≤ bw) (hB : base ≤ B) (hs : base ≤ W.heap.size) : Below base W W' :=
  ⟨h.os, h.tape, h.output, h.size, fun k hk => h.block k (by omega) (by omega) (.inl (by omega))⟩

theorem written_pos (t : T) : 0 < (byt (writtenT t)).length := by
  obtain ⟨kd, n, s, keys, kids⟩ := t
  rw [byt_len, writtenT, closeS, padS, app_size, app_size, app_size, numS_size]
  omega

set_option maxRecDepth 100000 in
set_option maxHeartbeats 1600000 in
theorem encode_any (t : T) (v : Value) (w : World) (hr : Rep w t v) (hl : HasLaid w) (hc : costT t ≤ 3000) :
    Calls Tryd.prog 10 #[v] w fun e w' => e = .returned (encodeV t) ∧ Below w.heap.size w w' := by
  have hrw := hr
  obtain ⟨ka, va, kc, vc, rfl, _, _, _, _, _, _, _⟩ := rep_agg hr
  have hm := valid_any t _ _ (Rep.mono (same_alloc w (.cells #[.int .i64 t.kind, .int .i64 t.n, .string t.s, .slice ka t.keys.length kc, .slice va t.kids.length vc] 25)) _ _ hr) (hl.mono (same_alloc w _)) hc
  cases hv : validB t with
  | true =>
    have hwr := wrote_any t (valid_shaped hv) hc
    have hsz : (byt (writtenT t)).length ≤ 65536 := by
      rw [byt_len]
      unfold validB at hv
      simp only [Bool.and_eq_true, decide_eq_true_eq] at hv
      omega
    have hpos := written_pos t
    have hso := strOf_byt (writtenT t)
    rw [encodeV, if_pos hv]
    rw [hv] at hm
    obtain ⟨K, hK⟩ : ∃ K, t.kind = K := ⟨_, rfl⟩
    obtain ⟨N, hN⟩ : ∃ N, t.n = N := ⟨_, rfl⟩
    obtain ⟨S, hS⟩ : ∃ S, t.s = S := ⟨_, rfl⟩
    obtain ⟨kl, hkl⟩ : ∃ l, t.keys.length = l := ⟨_, rfl⟩
    obtain ⟨vl, hvl⟩ : ∃ l, t.kids.length = l := ⟨_, rfl⟩
    rw [hK, hN, hS, hkl, hvl] at hrw hm ⊢
    have h35 : ∀ w1, Below (w.heap.size + 1) (w.alloc (.cells #[.int .i64 K, .int .i64 N, .string S, .slice ka kl kc, .slice va vl vc] 25)) w1 →
        Calls Tryd.prog 35 #[.pointer (some ⟨w1.heap.size + 1, 0, none⟩), .agg #[.int .i64 K, .int .i64 N, .string S, .slice ka kl kc, .slice va vl vc]] ((w1.alloc tabF).alloc (.cells #[.slice none 0 0, .slice (some ⟨w1.heap.size, 0, none⟩) 11 11] 54))
          fun e W' => e = .returned (.tuple #[]) ∧ Wr W' (w1.heap.size + 1) w1.heap.size (w1.heap.size + 2) (byt (writtenT t)) ∧ Below w.heap.size w W' := by
      intro w1 hb1
      have hsz1 := hb1.size
      have e1 : (w1.alloc tabF).heap.size = w1.heap.size + 1 := by simp
      have e2 : ((w1.alloc tabF).alloc (.cells #[.slice none 0 0, .slice (some ⟨w1.heap.size, 0, none⟩) 11 11] 54)).heap.size = w1.heap.size + 2 := by simp
      have e3 : (w.alloc (.cells #[.int .i64 K, .int .i64 N, .string S, .slice ka kl kc, .slice va vl vc] 25)).heap.size = w.heap.size + 1 := by simp
      have hsame : Same w ((w1.alloc tabF).alloc (.cells #[.slice none 0 0, .slice (some ⟨w1.heap.size, 0, none⟩) 11 11] 54)) := by
        intro a ha
        rw [← Same.of_box hb1 a ha]
        rw [same_alloc (w1.alloc tabF) _ a (by omega), same_alloc w1 _ a (by omega)]
      have hbel : Below w.heap.size w ((w1.alloc tabF).alloc (.cells #[.slice none 0 0, .slice (some ⟨w1.heap.size, 0, none⟩) 11 11] 54)) :=
        ((box_out hb1).alloc (by omega) _).alloc (by omega) _
      have hnb : ((w1.alloc tabF).alloc (.cells #[.slice none 0 0, .slice (some ⟨w1.heap.size, 0, none⟩) 11 11] 54)).heap[w1.heap.size + 1]? = some (.cells #[.slice none 0 0, .slice (some ⟨w1.heap.size, 0, none⟩) 11 11] 54 (0, 0)) := by
        have := heap_alloc_new (w1.alloc tabF) (.cells #[.slice none 0 0, .slice (some ⟨w1.heap.size, 0, none⟩) 11 11] 54)
        rw [e1] at this
        exact this
      have hnt : ((w1.alloc tabF).alloc (.cells #[.slice none 0 0, .slice (some ⟨w1.heap.size, 0, none⟩) 11 11] 54)).heap[w1.heap.size]? = some tabF :=
        (heap_alloc_old _ (by omega)).trans (heap_alloc_new w1 tabF)
      refine (hwr _ w _ (w1.heap.size + 1) w1.heap.size (w1.heap.size + 2) [] hrw hsame (by omega) (by omega) (by omega) hnt
        ⟨by omega, _, hnb, World.ownsRow_nil _ _ _ _⟩ rfl (by simp; omega) (by omega)).mono ?_
      rintro e W' ⟨rfl, g1, g2⟩
      exact ⟨rfl, g1, hbel.trans (g2.below (by omega) (by omega) (by omega))⟩
    have H35 := Lib.hid h35
    have HP := Lib.hid hpos
    have HSO := Lib.hid hso
    have hbw := bodyWriters_any
    clear hv h35 hwr hsz hpos hso hK hN hS hkl hvl hr hrw
    have hA : ∀ (w1 : World) (j : Nat) (u : Value), w1.cell? ⟨w.heap.size, j, none⟩ = some u → ((w1.alloc tabF).alloc (.cells #[.slice none 0 0, .slice (some ⟨w1.heap.size, 0, none⟩) 11 11] 54)).cell? ⟨w.heap.size, j, none⟩ = some u := by
      intro w1 j u h
      have h1 := cell_lt h
      have e1 : (w1.alloc tabF).heap.size = w1.heap.size + 1 := by simp
      rw [same_alloc (w1.alloc tabF) _ _ (by omega), same_alloc w1 _ _ h1]
      exact h
    have HA := Lib.hid hA
    clear hA
    go_enter Tryd.func10, Tryd.ntmps10
    go_wp2_with (first
      | (go_at_call 16; refine hm.mono ?_; rintro e w1 ⟨rfl, hb1⟩; obtain ⟨x0, x1, x2, x3, x4⟩ := box_at (box_first hb1); have h36 := H35.out w1 (box_first hb1); have q0 := HA.out w1 _ _ x0; have q1 := HA.out w1 _ _ x1; have q2 := HA.out w1 _ _ x2; have q3 := HA.out w1 _ _ x3; have q4 := HA.out w1 _ _ x4)
      | (go_at_call 34; refine (hbw _).mono ?_; rintro e w2 ⟨rfl, rfl⟩)
      | (go_at_call 35; refine h36.mono ?_; rintro e w3 ⟨rfl, hw3, hb3⟩; obtain ⟨_, v3, hh3, hown3⟩ := hw3; obtain ⟨g, cap, rfl, _, _⟩ := own_shape hown3 HP.out; obtain ⟨c30, _, _⟩ := wr_cells hh3; have hcv := own_conv hown3 rfl; rw [HSO.out] at hcv))
    go_ret2
    exact ⟨rfl, hb3⟩
  | false =>
    rw [encodeV, if_neg (by rw [hv]; simp)]
    rw [hv] at hm
    clear hv
    go_enter Tryd.func10, Tryd.ntmps10
    go_wp2_with (go_at_call 16; refine hm.mono ?_; rintro e w1 ⟨rfl, hb1⟩)
    go_ret2
    exact ⟨rfl, box_out (box_first hb1)⟩
end Go.Proofs.YtfbeeaibejggdaaDoor
