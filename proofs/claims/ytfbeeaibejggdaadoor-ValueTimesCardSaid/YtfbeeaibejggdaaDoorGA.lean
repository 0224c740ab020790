/- The writer leaves a value's bytes behind what it had, for every value that is shaped. -/
import Derived.Test.YtfbeeaibejggdaaDoorG3
import Derived.Test.YtfbeeaibejggdaaDoorE2
namespace Go.Proofs.YtfbeeaibejggdaaDoor
open Go.RowKit

theorem put_mid (xs a b c : List Int) (n : Int) (ha : a.length = 4) : put (xs ++ a ++ b ++ c) xs.length n 4 = xs ++ digs n 4 ++ b ++ c := by
  unfold put
  have h1 : (xs ++ a ++ b ++ c).take xs.length = xs := by simp
  have h2 : (xs ++ a ++ b ++ c).drop (xs.length + 4) = b ++ c := by
    rw [show xs.length + 4 = (xs ++ a).length by simp [ha], List.append_assoc (xs ++ a) b c, List.drop_left]
  rw [h1, h2]
  simp [List.append_assoc]

/-- What a call leaves, the same bytes in other words. -/
theorem wrote_as {bw bb B : Nat} {xs ys : List Int} {W : World} {args : Array Value} {f : Nat} (h : Calls Tryd.prog f args W fun e W' => e = .returned (.tuple #[]) ∧ Wr W' bw bb B xs ∧ Fr B bw W W') (e : xs = ys) :
    Calls Tryd.prog f args W fun e W' => e = .returned (.tuple #[]) ∧ Wr W' bw bb B ys ∧ Fr B bw W W' := by rw [← e]; exact h

/-- What stands at the place of a value's body. -/
theorem wrote_at (kd n : Int) (s : ByteArray) (keys : List Int) (kids : List T) (hs : shapedB (.mk kd n s keys kids) = true) (hc : costT (.mk kd n s keys kids) ≤ 3000) (xs : List Int) :
    put (xs ++ digs (IntKind.u64.wrap 0) 4 ++ digs (IntKind.u64.wrap kd) 4 ++ bodyOut kd n s keys kids) xs.length (bodyOut kd n s keys kids).length 4 ++ digs (IntKind.u64.wrap 0) ((8 - (bodyOut kd n s keys kids).length % 8) % 8) =
      xs ++ byt (writtenT (.mk kd n s keys kids)) := by
  rw [(written_parts kd n s keys kids hs hc).1, put_mid _ _ _ _ _ (digs_len _ _), u64_same 0 (by omega) (by omega)]
  simp only [List.append_assoc]

theorem tab_at {w : World} {bb : Nat} (h : w.heap[bb]? = some tabF) (k : Nat) : w.cell? ⟨bb, k, none⟩ = (#[Value.nilFunc, .func (.func 50) #[] #[], .func (.func 51) #[] #[], .func (.func 53) #[] #[], .func (.func 54) #[] #[], .func (.func 54) #[] #[],
  .func (.func 55) #[] #[], .func (.func 55) #[] #[], .func (.func 56) #[] #[], .func (.func 57) #[] #[], .func (.func 58) #[] #[]])[k]? := by
  unfold World.cell?
  rw [h]
  rfl

theorem bodyOut_text (n : Int) (s : ByteArray) (keys : List Int) (kids : List T) : bodyOut 4 n s keys kids = byt s ∧ bodyOut 5 n s keys kids = byt s := ⟨rfl, rfl⟩

set_option maxHeartbeats 1000000 in
theorem wrote_all (N : Nat) : ∀ t : T, SizeOf.sizeOf t ≤ N → shapedB t = true → costT t ≤ 3000 → WroteAt tabF t := by
  induction N with
  | zero => intro t; cases t; intro h; simp at h
  | succ N IH =>
    rintro ⟨kd, n, s, keys, kids⟩ ht hs hc v W0 W bw bb B xs hr hsm h0 hbb hbn htb hW hx hl hB
    obtain ⟨hk1, hk2⟩ := shaped_kids kd n s keys kids hs
    have hbo := body_out kd n s keys kids hs
    obtain ⟨hpt, hbl⟩ := written_parts kd n s keys kids hs hc
    have hbw := hW.1
    have hlen : xs.length + (bodyOut kd n s keys kids).length + 8 ≤ 1000000 := by
      rw [hpt] at hl
      simp only [List.length_append, digs_len] at hl
      omega
    have ih : ∀ j, (h : j < kids.length) → WroteAt tabF kids[j] := fun j hj => IH _ (kid_size ht hj) (hk1 j hj) (by
      have := cost_kid hj
      rw [costT] at hc
      omega)
    have h8 : ∀ t ∈ kids, (byt (writtenT t)).length % 8 = 0 := fun t _ => written_eight t
    have hsame : ∀ w1, Fr B bw W w1 → Same W0 w1 := fun w1 hf => hsm.fr hf h0 hbw hB
    have htab : ∀ w1, Fr B bw W w1 → w1.heap[bb]? = some tabF := fun w1 hf => hf.old hbb hbn htb
    have hsz : ∀ w1, Fr B bw W w1 → B ≤ w1.heap.size := fun w1 hf => Nat.le_trans hB hf.size
    have hend := wrote_at kd n s keys kids hs hc xs
    have h4 : ∀ m : Int, (digs m 4).length = 4 := fun m => digs_len m 4
    have hkd : kd = 1 ∨ kd = 2 ∨ kd = 3 ∨ kd = 4 ∨ kd = 5 ∨ kd = 6 ∨ kd = 7 ∨ kd = 8 ∨ kd = 9 ∨ kd = 10 := by have := hbo.2; omega
    clear hpt hl hbo
    have hout : ∀ {f : Nat} {w1 : World} {ys : List Int}, Fr B bw W w1 → (Calls Tryd.prog f #[.pointer (some ⟨bw, 0, none⟩), v] w1 fun e w2 => e = .returned (.tuple #[]) ∧ Wr w2 bw bb B ys ∧ Fr B bw w1 w2) →
        Calls Tryd.prog f #[.pointer (some ⟨bw, 0, none⟩), v] w1 fun e w2 => e = .returned (.tuple #[]) ∧ Wr w2 bw bb B ys ∧ Fr B bw W w2 := fun hf c => c.mono fun e w2 ⟨a, b, c⟩ => ⟨a, b, hf.trans c⟩
    have hlx : ∀ a b : Int, (xs ++ digs a 4 ++ digs b 4).length = xs.length + 8 := fun a b => by simp only [List.length_append, h4]
    rcases hkd with rfl | rfl | rfl | rfl | rfl | rfl | rfl | rfl | rfl | rfl
    · refine wrote_as (value_50 1 n s keys kids v W0 W bw bb B xs _ hr hbb hbn htb (by omega) (by omega) (fun w h => (tab_at h 1).trans rfl) hW hx hlen hB fun w1 hw1 hf => hout hf ?_) hend
      have hnil : bodyOut 1 n s keys kids = [] := rfl
      rw [hnil, List.append_nil]
      exact none_any 1 n s keys kids v W0 w1 bw bb B _ hr hw1 (hsz w1 hf)
    · refine wrote_as (value_51 2 n s keys kids v W0 W bw bb B xs _ hr hbb hbn htb (by omega) (by omega) (fun w h => (tab_at h 2).trans rfl) hW hx hlen hB fun w1 hw1 hf => hout hf ?_) hend
      exact bool_any 2 n s keys kids v W0 w1 bw bb B _ hr hw1 (by rw [hlx]; omega) (hsz w1 hf)
    · refine wrote_as (value_53 3 n s keys kids v W0 W bw bb B xs _ hr hbb hbn htb (by omega) (by omega) (fun w h => (tab_at h 3).trans rfl) hW hx hlen hB fun w1 hw1 hf => hout hf ?_) hend
      exact int_any 3 n s keys kids v W0 w1 bw bb B _ hr hw1 (by rw [hlx]; omega) (hsz w1 hf)
    · refine wrote_as (value_54 4 n s keys kids v W0 W bw bb B xs _ hr hbb hbn htb (by omega) (by omega) (fun w h => (tab_at h 4).trans rfl) hW hx hlen hB fun w1 hw1 hf => hout hf ?_) hend
      rw [(bodyOut_text n s keys kids).1, byt_len] at hlen
      exact text_any 4 n s keys kids v bw bb B _ w1 (Rep.mono (hsame w1 hf) _ _ hr) hw1 (by rw [hlx]; omega) (by omega) (hsz w1 hf)
    · refine wrote_as (value_54 5 n s keys kids v W0 W bw bb B xs _ hr hbb hbn htb (by omega) (by omega) (fun w h => (tab_at h 5).trans rfl) hW hx hlen hB fun w1 hw1 hf => hout hf ?_) hend
      rw [(bodyOut_text n s keys kids).2, byt_len] at hlen
      exact text_any 5 n s keys kids v bw bb B _ w1 (Rep.mono (hsame w1 hf) _ _ hr) hw1 (by rw [hlx]; omega) (by omega) (hsz w1 hf)
    · refine wrote_as (value_55 6 n s keys kids v W0 W bw bb B xs _ hr hbb hbn htb (by omega) (by omega) (fun w h => (tab_at h 6).trans rfl) hW hx hlen hB fun w1 hw1 hf => hout hf ?_) hend
      have e : bodyOut 6 n s keys kids = kidsOut kids := rfl
      rw [e] at hlen ⊢
      exact kids_any tabF 6 n s keys kids v W0 w1 bw bb B _ hr (hsame w1 hf) h0 hbb hbn (htab w1 hf) hw1 (by rw [hlx]; omega) h8 (by rw [hlx]; omega) (hsz w1 hf) ih
    · refine wrote_as (value_55 7 n s keys kids v W0 W bw bb B xs _ hr hbb hbn htb (by omega) (by omega) (fun w h => (tab_at h 7).trans rfl) hW hx hlen hB fun w1 hw1 hf => hout hf ?_) hend
      have e : bodyOut 7 n s keys kids = kidsOut kids := rfl
      rw [e] at hlen ⊢
      exact kids_any tabF 7 n s keys kids v W0 w1 bw bb B _ hr (hsame w1 hf) h0 hbb hbn (htab w1 hf) hw1 (by rw [hlx]; omega) h8 (by rw [hlx]; omega) (hsz w1 hf) ih
    · refine wrote_as (value_56 8 n s keys kids v W0 W bw bb B xs _ hr hbb hbn htb (by omega) (by omega) (fun w h => (tab_at h 8).trans rfl) hW hx hlen hB fun w1 hw1 hf => hout hf ?_) hend
      have e : bodyOut 8 n s keys kids = digs (IntKind.u64.wrap n) 8 ++ keyedOut keys kids kids.length := rfl
      rw [e, List.length_append, digs_len] at hlen
      rw [e, ← List.append_assoc]
      exact object_any tabF 8 n s keys kids v W0 w1 bw bb B _ hr (hsame w1 hf) h0 hbb hbn (htab w1 hf) hw1 (by rw [hlx]; omega) h8 (by rw [hlx]; omega) (hsz w1 hf) (hk2 rfl) ih
    · refine wrote_as (value_57 9 n s keys kids v W0 W bw bb B xs _ hr hbb hbn htb (by omega) (by omega) (fun w h => (tab_at h 9).trans rfl) hW hx hlen hB fun w1 hw1 hf => hout hf ?_) hend
      have e : bodyOut 9 n s keys kids = digs (IntKind.u64.wrap n) 8 ++ kidsOut kids := rfl
      rw [e, List.length_append, digs_len] at hlen
      rw [e, ← List.append_assoc]
      exact choice_any tabF 9 n s keys kids v W0 w1 bw bb B _ hr (hsame w1 hf) h0 hbb hbn (htab w1 hf) hw1 (by rw [hlx]; omega) h8 (by rw [hlx]; omega) (hsz w1 hf) ih
    · refine wrote_as (value_58 10 n s keys kids v W0 W bw bb B xs _ hr hbb hbn htb (by omega) (by omega) (fun w h => (tab_at h 10).trans rfl) hW hx hlen hB fun w1 hw1 hf => hout hf ?_) hend
      have e : bodyOut 10 n s keys kids = keyedOut keys kids kids.length := rfl
      rw [e] at hlen ⊢
      exact keyed_any tabF 10 n s keys kids v W0 w1 bw bb B _ hr (hsame w1 hf) h0 hbb hbn (htab w1 hf) hw1 (by rw [hlx]; omega) h8 (by rw [hlx]; omega) (hsz w1 hf) (hk2 rfl) ih

theorem wrote_any (t : T) (hs : shapedB t = true) (hc : costT t ≤ 3000) : WroteAt tabF t := wrote_all _ t (Nat.le_refl _) hs hc
end Go.Proofs.YtfbeeaibejggdaaDoor
/- value.Encode is the document's. -/
namespace Go.Proofs.YtfbeeaibejggdaaDoor
open Go.RowKit

theorem strOf_byt (s : ByteArray) : strOfNums (byt s) = s := by
  obtain ⟨⟨l⟩⟩ := s
  unfold strOfNums byt
  simp only [List.map_map]
  congr 1
  congr 1
  conv => rhs; rw [← List.map_id l]
  apply List.map_congr_left
  intro b _
  simp

theorem Fr.below {B bw base : Nat} {W W' : World} (h : Fr B bw W W') (hb : base ≤ bw) (hB : base ≤ B) (hs : base ≤ W.heap.size) : Below base W W' :=
  ⟨h.os, h.tape, h.output, h.size, fun k hk => h.block k (by omega) (by omega) (.inl (by omega))⟩

theorem written_pos (t : T) : 0 < (byt (writtenT t)).length := by
  obtain ⟨kd, n, s, keys, kids⟩ := t
  rw [byt_len, writtenT, closeS, padS, app_size, app_size, app_size, numS_size]
  omega

set_option maxRecDepth 100000 in
set_option maxHeartbeats 1600000 in
theorem encode_any (t : T) (v : Value) (w : World) (hr : Rep w t v) (hl : HasLaid w) (hc : costT t ≤ 3000) :
    Calls Tryd.prog 10 #[v] w fun e w' => e = .returned (encodeV t) ∧ Below w.heap.size w w' := by
  have hrw := hr
  obtain ⟨ka, va, kc, vc, rfl, _, _, _, _, _, _, _⟩ := rep_agg hr
  have hm := valid_any t _ _ (Rep.mono (same_alloc w (.cells #[.int .i64 t.kind, .int .i64 t.n, .string t.s, .slice ka t.keys.length kc, .slice va t.kids.length vc] 25)) _ _ hr) (hl.mono (same_alloc w _)) hc
  cases hv : validB t with
  | true =>
    have hwr := wrote_any t (valid_shaped hv) hc
    have hsz : (byt (writtenT t)).length ≤ 65536 := by
      rw [byt_len]
      unfold validB at hv
      simp only [Bool.and_eq_true, decide_eq_true_eq] at hv
      omega
    have hpos := written_pos t
    have hso := strOf_byt (writtenT t)
    rw [encodeV, if_pos hv]
    rw [hv] at hm
    obtain ⟨K, hK⟩ : ∃ K, t.kind = K := ⟨_, rfl⟩
    obtain ⟨N, hN⟩ : ∃ N, t.n = N := ⟨_, rfl⟩
    obtain ⟨S, hS⟩ : ∃ S, t.s = S := ⟨_, rfl⟩
    obtain ⟨kl, hkl⟩ : ∃ l, t.keys.length = l := ⟨_, rfl⟩
    obtain ⟨vl, hvl⟩ : ∃ l, t.kids.length = l := ⟨_, rfl⟩
    rw [hK, hN, hS, hkl, hvl] at hrw hm ⊢
    have h35 : ∀ w1, Below (w.heap.size + 1) (w.alloc (.cells #[.int .i64 K, .int .i64 N, .string S, .slice ka kl kc, .slice va vl vc] 25)) w1 →
        Calls Tryd.prog 35 #[.pointer (some ⟨w1.heap.size + 1, 0, none⟩), .agg #[.int .i64 K, .int .i64 N, .string S, .slice ka kl kc, .slice va vl vc]] ((w1.alloc tabF).alloc (.cells #[.slice none 0 0, .slice (some ⟨w1.heap.size, 0, none⟩) 11 11] 54))
          fun e W' => e = .returned (.tuple #[]) ∧ Wr W' (w1.heap.size + 1) w1.heap.size (w1.heap.size + 2) (byt (writtenT t)) ∧ Below w.heap.size w W' := by
      intro w1 hb1
      have hsz1 := hb1.size
      have e1 : (w1.alloc tabF).heap.size = w1.heap.size + 1 := by simp
      have e2 : ((w1.alloc tabF).alloc (.cells #[.slice none 0 0, .slice (some ⟨w1.heap.size, 0, none⟩) 11 11] 54)).heap.size = w1.heap.size + 2 := by simp
      have e3 : (w.alloc (.cells #[.int .i64 K, .int .i64 N, .string S, .slice ka kl kc, .slice va vl vc] 25)).heap.size = w.heap.size + 1 := by simp
      have hsame : Same w ((w1.alloc tabF).alloc (.cells #[.slice none 0 0, .slice (some ⟨w1.heap.size, 0, none⟩) 11 11] 54)) := by
        intro a ha
        rw [← Same.of_box hb1 a ha]
        rw [same_alloc (w1.alloc tabF) _ a (by omega), same_alloc w1 _ a (by omega)]
      have hbel : Below w.heap.size w ((w1.alloc tabF).alloc (.cells #[.slice none 0 0, .slice (some ⟨w1.heap.size, 0, none⟩) 11 11] 54)) :=
        ((box_out hb1).alloc (by omega) _).alloc (by omega) _
      have hnb : ((w1.alloc tabF).alloc (.cells #[.slice none 0 0, .slice (some ⟨w1.heap.size, 0, none⟩) 11 11] 54)).heap[w1.heap.size + 1]? = some (.cells #[.slice none 0 0, .slice (some ⟨w1.heap.size, 0, none⟩) 11 11] 54 (0, 0)) := by
        have := heap_alloc_new (w1.alloc tabF) (.cells #[.slice none 0 0, .slice (some ⟨w1.heap.size, 0, none⟩) 11 11] 54)
        rw [e1] at this
        exact this
      have hnt : ((w1.alloc tabF).alloc (.cells #[.slice none 0 0, .slice (some ⟨w1.heap.size, 0, none⟩) 11 11] 54)).heap[w1.heap.size]? = some tabF :=
        (heap_alloc_old _ (by omega)).trans (heap_alloc_new w1 tabF)
      refine (hwr _ w _ (w1.heap.size + 1) w1.heap.size (w1.heap.size + 2) [] hrw hsame (by omega) (by omega) (by omega) hnt
        ⟨by omega, _, hnb, World.ownsRow_nil _ _ _ _⟩ rfl (by simp; omega) (by omega)).mono ?_
      rintro e W' ⟨rfl, g1, g2⟩
      exact ⟨rfl, g1, hbel.trans (g2.below (by omega) (by omega) (by omega))⟩
    have H35 := Lib.hid h35
    have HP := Lib.hid hpos
    have HSO := Lib.hid hso
    have hbw := bodyWriters_any
    clear hv h35 hwr hsz hpos hso hK hN hS hkl hvl hr hrw
    have hA : ∀ (w1 : World) (j : Nat) (u : Value), w1.cell? ⟨w.heap.size, j, none⟩ = some u → ((w1.alloc tabF).alloc (.cells #[.slice none 0 0, .slice (some ⟨w1.heap.size, 0, none⟩) 11 11] 54)).cell? ⟨w.heap.size, j, none⟩ = some u := by
      intro w1 j u h
      have h1 := cell_lt h
      have e1 : (w1.alloc tabF).heap.size = w1.heap.size + 1 := by simp
      rw [same_alloc (w1.alloc tabF) _ _ (by omega), same_alloc w1 _ _ h1]
      exact h
    have HA := Lib.hid hA
    clear hA
    go_enter Tryd.func10, Tryd.ntmps10
    go_wp2_with (first
      | (go_at_call 16; refine hm.mono ?_; rintro e w1 ⟨rfl, hb1⟩; obtain ⟨x0, x1, x2, x3, x4⟩ := box_at (box_first hb1); have h36 := H35.out w1 (box_first hb1); have q0 := HA.out w1 _ _ x0; have q1 := HA.out w1 _ _ x1; have q2 := HA.out w1 _ _ x2; have q3 := HA.out w1 _ _ x3; have q4 := HA.out w1 _ _ x4)
      | (go_at_call 34; refine (hbw _).mono ?_; rintro e w2 ⟨rfl, rfl⟩)
      | (go_at_call 35; refine h36.mono ?_; rintro e w3 ⟨rfl, hw3, hb3⟩; obtain ⟨_, v3, hh3, hown3⟩ := hw3; obtain ⟨g, cap, rfl, _, _⟩ := own_shape hown3 HP.out; obtain ⟨c30, _, _⟩ := wr_cells hh3; have hcv := own_conv hown3 rfl; rw [HSO.out] at hcv))
    go_ret2
    exact ⟨rfl, hb3⟩
  | false =>
    rw [encodeV, if_neg (by rw [hv]; simp)]
    rw [hv] at hm
    clear hv
    go_enter Tryd.func10, Tryd.ntmps10
    go_wp2_with (go_at_call 16; refine hm.mono ?_; rintro e w1 ⟨rfl, hb1⟩)
    go_ret2
    exact ⟨rfl, box_out (box_first hb1)⟩
end Go.Proofs.YtfbeeaibejggdaaDoor
