/- All channels with gains. -/
import Derived.Test.YthfagnbecocgdaaRE
namespace Go.Proofs.Ythfagnbecocgdaa
open Go.RowKit Go.Shelf Go.Deep

def allM (b : List (List Int)) (G : Nat → Int) : List (List Int) := b.map fun r => scaledR r G
theorem allM_len (b : List (List Int)) (G : Nat → Int) : (allM b G).length = b.length := by simp [allM]
theorem allM_at {b : List (List Int)} {G : Nat → Int} {k : Nat} (h : k < b.length) : (allM b G).getD k [] = scaledR (b.getD k []) G := by simp [allM, List.getD, h]
theorem scaled_ok {r : List Int} {G : Nat → Int} (h : r.length ≤ 4096) : okRow (scaledR r G) := by
  refine ⟨by rw [scaledR_len]; omega, fun i hi => ?_⟩
  rw [scaledR_len] at hi
  rw [scaledR_at hi]
  have := times_bd (r.getD i 0) (G i)
  unfold I64; omega

theorem slice_owns {w : World} {B n : Nat} {e : TypeId} {u : Value} {xs : List Value} (h : w.ownsRow B e 1 u n xs) : ∃ p c, u = .slice p n c := by
  rcases h.2 with ⟨rfl, rfl⟩ | ⟨_, _, _, rfl, _⟩
  · exact ⟨_, _, rfl⟩
  · exact ⟨_, _, rfl⟩

set_option maxHeartbeats 4000000 in
set_option maxRecDepth 100000 in
theorem allScaled_any (b : List (List Int)) (v : Value) (g : Nat) (lb : Array Value) (G : Nat → Int) (k : Nat) (w : World) (hM : MatIn w b v) (h8 : b.length ≤ 8) (hrow : ∀ j, j < b.length → (b.getD j []).length = k) (hk : k ≤ 4096)
    (hbd : ∀ j i, ((b.getD j []).getD i 0).natAbs ≤ 8388607) (hG : IsGains g lb k G w) :
    Calls Try.prog 81 #[v, .func (.func g) #[] lb] w fun e w' => ∃ u, e = .returned u ∧ MatNew w.heap.size w' (allM b G) u ∧ Below w.heap.size w w' := by
  obtain ⟨a, ca, rfl, hin, hal, _⟩ := id hM
  obtain ⟨i1, hi1, hy0, hy1, hy2⟩ := info_parts Try.info40
  have HR := Lib.hid hrow
  have HM := Lib.hid hM
  have HBD := Lib.hid hbd
  have HG := Lib.hid hG
  clear hin hrow hM hbd hG
  go_enter Try.func81, Try.ntmps81
  go_wp2_with fail
  go_loopw [5, 10] (fun v i wr => ∃ (j : Nat) (vals : List Value), i = .int .i64 j ∧ j ≤ b.length ∧ Rz w wr ((allM b G).take j) vals v) (fun _ i _ => b.length - (RowKit.intOf i).toNat)
  case atStart => exact ⟨0, [], rfl, Nat.zero_le _, by simpa using Rz.start w⟩
  case round =>
    obtain ⟨j, vals, rfl, hj, hz⟩ := hrel
    by_cases hlt : j < b.length
    · have w4 : (j : Int) < (b.length : Int) := by omega
      obtain ⟨a2, ca2, e2, hin2, _, _⟩ := HM.out.mono (Same.of_below hz.below)
      simp only [Value.slice.injEq, true_and] at e2
      obtain ⟨rfl, rfl⟩ := e2
      obtain ⟨bb, ob, u, rfl, hcj, hu⟩ := hin2 j hlt
      have hrl := HR.out j hlt
      have hb0 := HBD.out j
      have HROW : Hid ((allM b G).take (j + 1) = (allM b G).take j ++ [scaledR (b.getD j []) G] ∧ ((allM b G).take j).length = j) := Lib.hid ⟨by
        rw [take_snocD _ j [] (by rw [allM_len]; exact hlt), allM_at hlt], by rw [List.length_take, allM_len]; omega⟩
      obtain ⟨r, hr⟩ : ∃ r, b.getD j [] = r := ⟨_, rfl⟩
      rw [hr] at hu hrl hb0 HROW
      subst hrl
      have hsc := scaled_any r u g lb G wr hu (fun i _ => hb0 i) hk (HG.out.mono hz.below)
      have hok := scaled_ok (G := G) hk
      have hlen := scaledR_len r G
      obtain ⟨aj, cj, rfl, _, _, _⟩ := hu
      obtain ⟨q, hq⟩ : ∃ q, scaledR r G = q := ⟨_, rfl⟩
      rw [hq] at HROW hsc hok hlen
      have HLEN := Lib.hid hlen
      have HZ := Lib.hid hz
      have HOK := Lib.hid hok
      clear hz hin2 hq hok hb0 hr hlen
      go_wp2_with (first
        | (go_at_call 56; (with_reducible refine hsc.mono ?_); rintro e w1 ⟨u1, rfl, ho1, hb1⟩; rw [← HLEN.out] at ho1; obtain ⟨p1, c1, rfl⟩ := slice_owns ho1; have HO1 := Lib.hid ho1; have HB1 := Lib.hid hb1
           have hown2 : (w1.alloc (.cells #[.slice p1 q.length c1] 40)).ownsRow w.heap.size 40 1 u5 j vals := (by
             have := owns_below (HZ.out.own) (HB1.out.alloc (by have := HB1.out.size; omega) (.cells #[.slice p1 q.length c1] 40))
             rwa [HROW.out.2] at this)
           clear ho1 hb1)
        | (at_builtin; refine wpList_append_moves rfl (.tmp 14) (.tmp 18) 34 rfl w.heap.size 40 i1 _ 1 24 Try.underlying34 hi1 hy0 hy1 hy2 rfl (by decide) u5 j vals rfl hown2 ⟨w1.heap.size, 0, none⟩ 1 1 [.slice p1 q.length c1] rfl rfl ?c1 ?c2 ?c3 ?c4 ?c5 ?_))
      case c1 =>
        intro j x hx
        match j with
        | 0 => simp at hx; subst hx; simp [go_sem]
        | j + 1 => simp at hx
      case c2 => intro x hx; simp at hx; subst hx; rfl
      case c3 => unfold maxLen; omega
      case c4 => omega
      case c5 => have := HZ.out.below.size; have := HB1.out.size; simp; omega
      intro v2 w2 h21 h22 h23
      have hz2 := HZ.out.step (HB1.out.alloc (by have := HB1.out.size; omega) (.cells #[.slice p1 q.length c1] 40)) (HO1.out.alloc _) (by rw [HROW.out.2]; exact h21) h22 h23 HOK.out
      rw [← HROW.out.1] at hz2
      have HZ2 := Lib.hid hz2
      clear h21 h22 h23 hz2 hown2
      go_wp2_with fail
      go_roundw
      case rel => exact ⟨j + 1, _, by go_num, by omega, HZ2.out⟩
      case measure => simp [RowKit.intOf]; omega
    · have w4 : ¬ (j : Int) < (b.length : Int) := by omega
      obtain rfl : j = b.length := by omega
      rw [List.take_of_length_le (by rw [allM_len]; exact Nat.le_refl _)] at hz
      have HZ := Lib.hid hz
      clear hz
      go_wp2_with fail
      go_ret
      exact ⟨_, rfl, HZ.out.mat (by rw [allM_len]; exact hal), HZ.out.below⟩
end Go.Proofs.Ythfagnbecocgdaa
