/- The writer leaves a value's bytes behind what it had, for every value that is shaped. -/
import Derived.Test.YtfbeeaibejggdaaDoorG3
namespace Go.Proofs.YtfbeeaibejggdaaDoor
open Go.RowKit

theorem put_mid (xs a b c : List Int) (n : Int) (ha : a.length = 4) : put (xs ++ a ++ b ++ c) xs.length n 4 = xs ++ digs n 4 ++ b ++ c := by
  unfold put
  have h1 : (xs ++ a ++ b ++ c).take xs.length = xs := by simp
  have h2 : (xs ++ a ++ b ++ c).drop (xs.length + 4) = b ++ c := by
    rw [show xs.length + 4 = (xs ++ a).length by simp [ha], List.append_assoc (xs ++ a) b c, List.drop_left]
  rw [h1, h2]
  simp [List.append_assoc]

/-- What a call leaves, the same bytes in other words. -/
theorem wrote_as {bw bb B : Nat} {xs ys : List Int} {W : World} {args : Array Value} {f : Nat} (h : Calls Tryd.prog f args W fun e W' => e = .returned (.tuple #[]) ∧ Wr W' bw bb B xs ∧ Fr B bw W W') (e : xs = ys) :
    Calls Tryd.prog f args W fun e W' => e = .returned (.tuple #[]) ∧ Wr W' bw bb B ys ∧ Fr B bw W W' := by rw [← e]; exact h

/-- What stands at the place of a value's body. -/
theorem wrote_at (kd n : Int) (s : ByteArray) (keys : List Int) (kids : List T) (hs : shapedB (.mk kd n s keys kids) = true) (hc : costT (.mk kd n s keys kids) ≤ 3000) (xs : List Int) :
    put (xs ++ digs (IntKind.u64.wrap 0) 4 ++ digs (IntKind.u64.wrap kd) 4 ++ bodyOut kd n s keys kids) xs.length (bodyOut kd n s keys kids).length 4 ++ digs (IntKind.u64.wrap 0) ((8 - (bodyOut kd n s keys kids).length % 8) % 8) =
      xs ++ byt (writtenT (.mk kd n s keys kids)) := by
  rw [(written_parts kd n s keys kids hs hc).1, put_mid _ _ _ _ _ (digs_len _ _), u64_same 0 (by omega) (by omega)]
  simp only [List.append_assoc]

theorem tab_at {w : World} {bb : Nat} (h : w.heap[bb]? = some tabF) (k : Nat) : w.cell? ⟨bb, k, none⟩ = (#[Value.nilFunc, .func (.func 50) #[] #[], .func (.func 51) #[] #[], .func (.func 53) #[] #[], .func (.func 54) #[] #[], .func (.func 54) #[] #[],
  .func (.func 55) #[] #[], .func (.func 55) #[] #[], .func (.func 56) #[] #[], .func (.func 57) #[] #[], .func (.func 58) #[] #[]])[k]? := by
  unfold World.cell?
  rw [h]
  rfl

theorem bodyOut_text (n : Int) (s : ByteArray) (keys : List Int) (kids : List T) : bodyOut 4 n s keys kids = byt s ∧ bodyOut 5 n s keys kids = byt s := ⟨rfl, rfl⟩

set_option maxHeartbeats 1000000 in
theorem wrote_all (N : Nat) : ∀ t : T, SizeOf.sizeOf t ≤ N → shapedB t = true → costT t ≤ 3000 → WroteAt tabF t := by
  induction N with
  | zero => intro t; cases t; intro h; simp at h
  | succ N IH =>
    rintro ⟨kd, n, s, keys, kids⟩ ht hs hc v W0 W bw bb B xs hr hsm h0 hbb hbn htb hW hx hl hB
    obtain ⟨hk1, hk2⟩ := shaped_kids kd n s keys kids hs
    have hbo := body_out kd n s keys kids hs
    obtain ⟨hpt, hbl⟩ := written_parts kd n s keys kids hs hc
    have hbw := hW.1
    have hlen : xs.length + (bodyOut kd n s keys kids).length + 8 ≤ 1000000 := by
      rw [hpt] at hl
      simp only [List.length_append, digs_len] at hl
      omega
    have ih : ∀ j, (h : j < kids.length) → WroteAt tabF kids[j] := fun j hj => IH _ (kid_size ht hj) (hk1 j hj) (by
      have := cost_kid hj
      rw [costT] at hc
      omega)
    have h8 : ∀ t ∈ kids, (byt (writtenT t)).length % 8 = 0 := fun t _ => written_eight t
    have hsame : ∀ w1, Fr B bw W w1 → Same W0 w1 := fun w1 hf => hsm.fr hf h0 hbw hB
    have htab : ∀ w1, Fr B bw W w1 → w1.heap[bb]? = some tabF := fun w1 hf => hf.old hbb hbn htb
    have hsz : ∀ w1, Fr B bw W w1 → B ≤ w1.heap.size := fun w1 hf => Nat.le_trans hB hf.size
    have hend := wrote_at kd n s keys kids hs hc xs
    have h4 : ∀ m : Int, (digs m 4).length = 4 := fun m => digs_len m 4
    have hkd : kd = 1 ∨ kd = 2 ∨ kd = 3 ∨ kd = 4 ∨ kd = 5 ∨ kd = 6 ∨ kd = 7 ∨ kd = 8 ∨ kd = 9 ∨ kd = 10 := by have := hbo.2; omega
    clear hpt hl hbo
    have hout : ∀ {f : Nat} {w1 : World} {ys : List Int}, Fr B bw W w1 → (Calls Tryd.prog f #[.pointer (some ⟨bw, 0, none⟩), v] w1 fun e w2 => e = .returned (.tuple #[]) ∧ Wr w2 bw bb B ys ∧ Fr B bw w1 w2) →
        Calls Tryd.prog f #[.pointer (some ⟨bw, 0, none⟩), v] w1 fun e w2 => e = .returned (.tuple #[]) ∧ Wr w2 bw bb B ys ∧ Fr B bw W w2 := fun hf c => c.mono fun e w2 ⟨a, b, c⟩ => ⟨a, b, hf.trans c⟩
    have hlx : ∀ a b : Int, (xs ++ digs a 4 ++ digs b 4).length = xs.length + 8 := fun a b => by simp only [List.length_append, h4]
    rcases hkd with rfl | rfl | rfl | rfl | rfl | rfl | rfl | rfl | rfl | rfl
    · refine wrote_as (value_50 1 n s keys kids v W0 W bw bb B xs _ hr hbb hbn htb (by omega) (by omega) (fun w h => (tab_at h 1).trans rfl) hW hx hlen hB fun w1 hw1 hf => hout hf ?_) hend
      have hnil : bodyOut 1 n s keys kids = [] := rfl
      rw [hnil, List.append_nil]
      exact none_any 1 n s keys kids v W0 w1 bw bb B _ hr hw1 (hsz w1 hf)
    · refine wrote_as (value_51 2 n s keys kids v W0 W bw bb B xs _ hr hbb hbn htb (by omega) (by omega) (fun w h => (tab_at h 2).trans rfl) hW hx hlen hB fun w1 hw1 hf => hout hf ?_) hend
      exact bool_any 2 n s keys kids v W0 w1 bw bb B _ hr hw1 (by rw [hlx]; omega) (hsz w1 hf)
    · refine wrote_as (value_53 3 n s keys kids v W0 W bw bb B xs _ hr hbb hbn htb (by omega) (by omega) (fun w h => (tab_at h 3).trans rfl) hW hx hlen hB fun w1 hw1 hf => hout hf ?_) hend
      exact int_any 3 n s keys kids v W0 w1 bw bb B _ hr hw1 (by rw [hlx]; omega) (hsz w1 hf)
    · refine wrote_as (value_54 4 n s keys kids v W0 W bw bb B xs _ hr hbb hbn htb (by omega) (by omega) (fun w h => (tab_at h 4).trans rfl) hW hx hlen hB fun w1 hw1 hf => hout hf ?_) hend
      rw [(bodyOut_text n s keys kids).1, byt_len] at hlen
      exact text_any 4 n s keys kids v bw bb B _ w1 (Rep.mono (hsame w1 hf) _ _ hr) hw1 (by rw [hlx]; omega) (by omega) (hsz w1 hf)
    · refine wrote_as (value_54 5 n s keys kids v W0 W bw bb B xs _ hr hbb hbn htb (by omega) (by omega) (fun w h => (tab_at h 5).trans rfl) hW hx hlen hB fun w1 hw1 hf => hout hf ?_) hend
      rw [(bodyOut_text n s keys kids).2, byt_len] at hlen
      exact text_any 5 n s keys kids v bw bb B _ w1 (Rep.mono (hsame w1 hf) _ _ hr) hw1 (by rw [hlx]; omega) (by omega) (hsz w1 hf)
    · refine wrote_as (value_55 6 n s keys kids v W0 W bw bb B xs _ hr hbb hbn htb (by omega) (by omega) (fun w h => (tab_at h 6).trans rfl) hW hx hlen hB fun w1 hw1 hf => hout hf ?_) hend
      have e : bodyOut 6 n s keys kids = kidsOut kids := rfl
      rw [e] at hlen ⊢
      exact kids_any tabF 6 n s keys kids v W0 w1 bw bb B _ hr (hsame w1 hf) h0 hbb hbn (htab w1 hf) hw1 (by rw [hlx]; omega) h8 (by rw [hlx]; omega) (hsz w1 hf) ih
    · refine wrote_as (value_55 7 n s keys kids v W0 W bw bb B xs _ hr hbb hbn htb (by omega) (by omega) (fun w h => (tab_at h 7).trans rfl) hW hx hlen hB fun w1 hw1 hf => hout hf ?_) hend
      have e : bodyOut 7 n s keys kids = kidsOut kids := rfl
      rw [e] at hlen ⊢
      exact kids_any tabF 7 n s keys kids v W0 w1 bw bb B _ hr (hsame w1 hf) h0 hbb hbn (htab w1 hf) hw1 (by rw [hlx]; omega) h8 (by rw [hlx]; omega) (hsz w1 hf) ih
    · refine wrote_as (value_56 8 n s keys kids v W0 W bw bb B xs _ hr hbb hbn htb (by omega) (by omega) (fun w h => (tab_at h 8).trans rfl) hW hx hlen hB fun w1 hw1 hf => hout hf ?_) hend
      have e : bodyOut 8 n s keys kids = digs (IntKind.u64.wrap n) 8 ++ keyedOut keys kids kids.length := rfl
      rw [e, List.length_append, digs_len] at hlen
      rw [e, ← List.append_assoc]
      exact object_any tabF 8 n s keys kids v W0 w1 bw bb B _ hr (hsame w1 hf) h0 hbb hbn (htab w1 hf) hw1 (by rw [hlx]; omega) h8 (by rw [hlx]; omega) (hsz w1 hf) (hk2 rfl) ih
    · refine wrote_as (value_57 9 n s keys kids v W0 W bw bb B xs _ hr hbb hbn htb (by omega) (by omega) (fun w h => (tab_at h 9).trans rfl) hW hx hlen hB fun w1 hw1 hf => hout hf ?_) hend
      have e : bodyOut 9 n s keys kids = digs (IntKind.u64.wrap n) 8 ++ kidsOut kids := rfl
      rw [e, List.length_append, digs_len] at hlen
      rw [e, ← List.append_assoc]
      exact choice_any tabF 9 n s keys kids v W0 w1 bw bb B _ hr (hsame w1 hf) h0 hbb hbn (htab w1 hf) hw1 (by rw [hlx]; omega) h8 (by rw [hlx]; omega) (hsz w1 hf) ih
    · refine wrote_as (value_58 10 n s keys kids v W0 W bw bb B xs _ hr hbb hbn htb (by omega) (by omega) (fun w h => (tab_at h 10).trans rfl) hW hx hlen hB fun w1 hw1 hf => hout hf ?_) hend
      have e : bodyOut 10 n s keys kids = keyedOut keys kids kids.length := rfl
      rw [e] at hlen ⊢
      exact keyed_any tabF 10 n s keys kids v W0 w1 bw bb B _ hr (hsame w1 hf) h0 hbb hbn (htab w1 hf) hw1 (by rw [hlx]; omega) h8 (by rw [hlx]; omega) (hsz w1 hf) (hk2 rfl) ih

theorem wrote_any (t : T) (hs : shapedB t = true) (hc : costT t ≤ 3000) : WroteAt tabF t := wrote_all _ t (Nat.le_refl _) hs hc
end Go.Proofs.YtfbeeaibejggdaaDoor
