/- First of a range; Numbers of the document's answers. -/
import Derived.Test.YtlpdeadmiinhoaaGreatDoorGB
namespace Go.Proofs.YtlpdeadmiinhoaaGreatDoor
open Go.RowKit

theorem Row.slice {B : Nat} {w : World} {v : Value} {l : List Int} (h : Row B w v l) : ∃ a cap, v = .slice a l.length cap := by
  obtain ⟨_, h2⟩ := h
  rcases h2 with ⟨rfl, hn⟩ | ⟨g, cap, cur, rfl, _⟩
  · exact ⟨none, 0, by rw [hn]⟩
  · exact ⟨_, cap, rfl⟩
theorem count_iff {s : Sp} (h : s.lo ≤ s.hi) (h1 : 1 ≤ s.st) (k : Nat) : s.lo + (k : Int) * s.st ≤ s.hi ↔ (k : Int) < s.count := by
  constructor
  · intro hk
    have hq := Int.mul_ediv_add_emod (s.hi - s.lo) s.st
    have hr1 := Int.emod_lt_of_pos (s.hi - s.lo) (show 0 < s.st by omega)
    unfold Sp.count
    by_cases hc : (k : Int) < (s.hi - s.lo) / s.st + 1
    · exact hc
    · have := Int.mul_le_mul_of_nonneg_left (show (s.hi - s.lo) / s.st + 1 ≤ (k : Int) by omega) (show 0 ≤ s.st by omega)
      rw [Int.mul_add] at this
      have e : (k : Int) * s.st = s.st * k := Int.mul_comm _ _
      omega
  · exact at_le h h1

set_option maxRecDepth 100000 in
set_option maxHeartbeats 3200000 in
theorem first_sp (c : Ch) (v : Value) (most : Nat) (w : World) (hc : ChIn w c v) (hl1 : c.isList = false) (h2 : 2 ≤ c.list.length) (h4 : c.kind = 4 → 3 ≤ c.list.length) (hok : c.sp.Ok) (hm : most ≤ 1000) :
    Calls Tryz.prog 54 #[v, .int .i64 most] w fun e w' => RowOut w (c.sp.firsts most) e w' := by
  have hc0 := hc
  obtain ⟨a, cap, rfl, _, _, hl, hin, _⟩ := hc
  obtain ⟨i0, hi, hz0, hz1, hz2⟩ := info_parts Tryz.info3
  obtain ⟨X, hX⟩ : ∃ X : Obj, X = .cells #[.int .i64 c.kind, .int .i64 c.dflt, .slice a c.list.length cap] 24 := ⟨_, rfl⟩
  have HST := Lib.hid fun (wr : World) (hi : In1 w X wr) => (step_any c _ wr (hc0.mono hi.same) h4).mono fun e w' ⟨a1, a2⟩ => (⟨a1, hi.next a2, a2⟩ : e = Ending.returned (.int .i64 c.sp.st) ∧ In1 w X w' ∧ Below wr.heap.size wr w')
  obtain ⟨b, off, rfl, c0, _⟩ := hin 0 (by omega)
  simp only [Nat.add_zero] at c0
  obtain ⟨b', off', hbo, c1, _⟩ := hin 1 (by omega)
  cases hbo
  have HC0 := Lib.hid fun (wr : World) (h : In1 w X wr) => h.same.cell c0
  have HC1 := Lib.hid fun (wr : World) (h : In1 w X wr) => h.same.cell c1
  have HC := Lib.hid fun (wr : World) (h : In1 w X wr) => In1.cells3 (hX ▸ h)
  have HF : In1 w X (w.alloc (.cells #[.int .i64 c.kind, .int .i64 c.dflt, .slice (some ⟨b, off, none⟩) c.list.length cap] 24)) := hX ▸ In1.first w X
  have hk : ¬ (c.kind = 1 ∨ c.kind = 2) := (isList_no c).1 hl1
  obtain ⟨o1, o2, o3, o4, o5⟩ := hok
  have HSn := Lib.hid fun k => upTo_snoc c.sp k
  have HLn := Lib.hid fun k => upTo_len c.sp k
  have HCi := Lib.hid fun k => count_iff o2 o4 k
  have HG : Hid (c.sp.firsts most = c.sp.upTo (min most c.sp.count.toNat)) := Lib.hid (upTo_firsts _ _)
  have HU0 : Hid (c.sp.upTo 0 = []) := Lib.hid rfl
  have e0 : c.list.getD 0 0 = c.sp.lo := rfl
  have e1 : c.list.getD 1 0 = c.sp.hi := rfl
  rw [e0] at HC0
  rw [e1] at HC1
  obtain ⟨U, hU⟩ : ∃ U, c.sp.upTo = U := ⟨_, rfl⟩
  obtain ⟨G, hG⟩ : ∃ G, c.sp.firsts most = G := ⟨_, rfl⟩
  obtain ⟨lo, hlo⟩ : ∃ x, c.sp.lo = x := ⟨_, rfl⟩
  obtain ⟨hi', hhi⟩ : ∃ x, c.sp.hi = x := ⟨_, rfl⟩
  obtain ⟨st, hst⟩ : ∃ x, c.sp.st = x := ⟨_, rfl⟩
  obtain ⟨cn, hcn⟩ : ∃ x, c.sp.count = x := ⟨_, rfl⟩
  rw [hU] at HSn HLn HG HU0
  rw [hG] at HG ⊢
  rw [hlo] at HSn HCi HC0 o1 o2
  rw [hhi] at HCi HC1 o2 o3
  rw [hst] at HSn HCi HST o4 o5
  rw [hcn] at HCi HG
  obtain ⟨kd, d, l⟩ := c
  simp only at hl h2 hk HC HST HF ⊢
  obtain ⟨m, hm'⟩ : ∃ m, l.length = m := ⟨_, rfl⟩
  simp only [hm'] at hl h2 HC HST HF ⊢
  have k1 : (kd == 1) = false := by simp; omega
  have k2 : (kd == 2) = false := by simp; omega
  have m0 : (0 : Int) < (m : Int) := by omega
  have m1 : (1 : Int) < (m : Int) := by omega
  have m2 : 0 < m := by omega
  have f3 := HC0.out _ HF
  clear hU hG hlo hhi hst hcn hm' e0 e1 hk hl1 h4 hc0 hin hX c0 c1 h2
  go_enter Tryz.func54, Tryz.ntmps54
  go_wp2_with fail
  go_loopw [5, 7] (fun v i wr => ∃ k : Nat, i = .int .i64 (lo + (k : Int) * st) ∧ k ≤ most ∧ (k : Int) ≤ cn ∧ Row (w.heap.size + 1) wr v (U k) ∧ In1 w X wr) (fun v _ _ => 1000 - (match v with | .slice _ n _ => n | _ => 0))
  case atStart =>
    refine ⟨0, by simp, Nat.zero_le _, ?_, by rw [HU0.out]; exact Row.nil _ _, HF⟩
    have := (HCi.out 0).1 (by simp; omega)
    omega
  case round =>
    obtain ⟨k, rfl, hk1, hk2, hrow, hi1⟩ := hrel
    clear HF f3
    rename_i wr _
    obtain ⟨p0, p1, p2⟩ := HC.out _ hi1
    have p3 := HC0.out _ hi1
    have p4 := HC1.out _ hi1
    obtain ⟨av, cv, rfl⟩ := hrow.slice
    have hln := HLn.out k
    have Hln := Lib.hid hln
    have hkb : (k : Int) * st ≤ 1000 * 1000 := by
      have h1 : (k : Int) * st ≤ (k : Int) * 1000 := Int.mul_le_mul_of_nonneg_left o5 (by omega)
      omega
    have hkp : 0 ≤ (k : Int) * st := Int.mul_nonneg (by omega) (by omega)
    obtain ⟨x, hx⟩ : ∃ x, lo + (k : Int) * st = x := ⟨_, rfl⟩
    have hsx : lo + ((k + 1 : Nat) : Int) * st = x + st := by
      rw [← hx, Int.natCast_add, Int.add_mul]; omega
    have Hsx := Lib.hid hsx
    have hci := HCi.out k
    have hcs := HSn.out k
    rw [hx] at hci hcs ⊢
    have Hcs := Lib.hid hcs
    have hxb : 0 ≤ x ∧ x ≤ 1001000000 := by omega
    obtain ⟨hx0, hx1⟩ := hxb
    rw [hln] at hrow ⊢
    clear hsx hcs hln hkb hkp hx
    obtain ⟨P, hP⟩ : ∃ P, U k = P := ⟨_, rfl⟩
    have hbs : w.heap.size + 1 ≤ wr.heap.size := hi1.size
    by_cases h1 : x ≤ hi'
    · have hkc : (k : Int) < cn := hci.1 h1
      by_cases h2 : k < most
      · have Hlk : Hid (P.length = k) := Lib.hid (by rw [← hP, Hln.out])
        rw [hP] at hrow Hcs
        clear hP hci
        have h3 : (k : Int) < (most : Int) := by omega
        go_wp2_with (first
          | (at_builtin; refine wpList_append_own _ rfl _ _ 22 rfl (w.heap.size + 1) 3 i0 (.int .i64 0) 1 8 Tryz.underlying22 hi hz0 hz1 hz2 rfl (by decide) _ _ _ rfl (World.ownsRow.alloc hrow _) ⟨wr.heap.size, 0, none⟩ 1 1 [.int .i64 x] rfl rfl ?c1 ?c2 ?c3 ?c4 ?c5 ?_))
        case c1 =>
          intro j u hj
          match j, hj with
          | 0, hj => simp at hj; subst hj; simp [Addr.add]
        case c2 => intro u hu; simp at hu; subst hu; rfl
        case c3 => have := Hlk.out; unfold maxLen; omega
        case c4 => have := Hlk.out; omega
        case c5 => simp; omega
        · intro v' w1 hown' hgrow _
          have hb1 : In1 w X w1 := Row.grown (w := w.alloc X) hrow hi1 hbs hgrow
          have hr1 := Row.push hown'
          have hcst := HST.out w1 hb1
          obtain ⟨q0, q1, q2⟩ := HC.out _ hb1
          obtain ⟨a2, c2, rfl⟩ := hr1.slice
          have hl2 : (P ++ [x]).length = k + 1 := by simp [Hlk.out]
          rw [hl2] at hr1 ⊢
          rw [← Hcs.out] at hr1
          clear hown' hgrow hrow hi1 hl2 p0 p1 p2 p3 p4
          go_wp2_with (go_at_call 57; (with_reducible refine hcst.mono ?_); rintro e w2 ⟨rfl, hi2, hb2⟩)
          have hr2 := hr1.below hb2
          go_roundw
          case rel => exact ⟨k + 1, by rw [Hsx.out], by omega, by omega, hr2, hi2⟩
          case measure => show 1000 - (k + 1) < 1000 - k; omega
      · have HT : Hid (G = U k) := Lib.hid (by rw [HG.out, show min most cn.toNat = k by omega])
        have h3 : ¬ (k : Int) < (most : Int) := by omega
        clear hP
        go_wp2_with fail
        go_ret
        exact ⟨_, rfl, by rw [HT.out]; exact hrow.weaken (by omega), hi1.out⟩
    · have HT : Hid (G = U k) := Lib.hid (by have : ¬ (k : Int) < cn := fun h => h1 (hci.2 h); rw [HG.out, show min most cn.toNat = k by omega])
      clear hP
      go_wp2_with fail
      go_ret
      exact ⟨_, rfl, by rw [HT.out]; exact hrow.weaken (by omega), hi1.out⟩
end Go.Proofs.YtlpdeadmiinhoaaGreatDoor
