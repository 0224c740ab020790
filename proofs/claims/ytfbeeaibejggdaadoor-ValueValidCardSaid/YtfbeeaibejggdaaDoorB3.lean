import Derived.Test.YtfbeeaibejggdaaDoorB2
namespace Go.Proofs.YtfbeeaibejggdaaDoor
open Go.RowKit

def noSeq (kids : List T) : Bool := kids.all fun x => !decide (x.kind = 10)
def sequenceB (t : T) : Bool := t.keys.length == t.kids.length && keysB t.keys 1000000000 false && noSeq t.kids

theorem okKey_next' {l : List Int} {high x y : Int} {j : Nat} (hx : Hid (l.getD j 0 = x)) (hy : Hid (l.getD (j - 1) 0 = y)) (h1 : 0 ≤ x) (h2 : x ≤ high) (h3 : y ≤ x) : okKey l high false j = true := okKey_next hx hy h1 h2 h3 (by simp)

set_option maxHeartbeats 1600000 in
theorem sequenceSound_any (t : T) (v : Value) (w : World) (hr : Rep w t v) :
    Calls Tryd.prog 95 #[v] w fun e w' => e = .returned (.bool (sequenceB t)) ∧ Below w.heap.size w w' := by
  obtain ⟨kd, n, s, keys, kids⟩ := t
  obtain ⟨ka, va, kc, vc, rfl, _, _, hs, hkl, hvl, hkeys, hkids⟩ := rep_mk hr
  have HO : Hid (sequenceB (.mk kd n s keys kids) = (keys.length == kids.length && keysB keys 1000000000 false && noSeq kids)) := Lib.hid rfl
  go_enter Tryd.func95, Tryd.ntmps95
  go_wp2_with fail
  · rename (((keys.length : Int) != (kids.length : Int)) = true) => h2
    go_ret
    refine ⟨ret_bool ?_, (Below.refl _ _).alloc (Nat.le_refl _) _⟩
    have h3 : (keys.length == kids.length) = false := by rw [beq_eq_false_iff_ne]; intro h; rw [h] at h2; simp at h2
    rw [HO.out, h3]; simp
  · rename (((keys.length : Int) != (kids.length : Int)) = false) => h2
    have HL : Hid (keys.length = kids.length) := Lib.hid (by have := eq_of_beq (not_f (by rw [← h2]; rfl)); omega)
    have HB : Hid (sequenceB (.mk kd n s keys kids) = (keysB keys 1000000000 false && noSeq kids)) := Lib.hid (by
      have h3 : (keys.length == kids.length) = true := by rw [beq_iff_eq]; exact HL.out
      rw [HO.out, h3]; simp)
    clear HO h2
    go_loopw [15] (fun i wr => ∃ (k : Nat), i = .int .i64 k ∧ k ≤ keys.length ∧ (∀ j, j < k → okKey keys 1000000000 false j = true) ∧ (∀ j, (h : j < kids.length) → j < k → (!decide (kids[j].kind = 10)) = true) ∧ Below (w.heap.size + 1) (w.alloc (.cells #[.int .i64 kd, .int .i64 n, .string s, .slice ka keys.length kc, .slice va kids.length vc] 25)) wr) (fun i _ => keys.length - (intOf i).toNat)
    case atStart => exact ⟨0, rfl, Nat.zero_le _, fun _ h => absurd h (Nat.not_lt_zero _), fun _ _ h => absurd h (Nat.not_lt_zero _), Below.refl _ _⟩
    case round =>
      obtain ⟨k, rfl, hkl', hok, hok2, hb⟩ := hrel
      have Hok := Lib.hid hok
      have Hok2 := Lib.hid hok2
      clear hok hok2
      obtain ⟨x0, x1, x2, x3, x4⟩ := box_at hb
      by_cases hlt : k < keys.length
      · obtain ⟨b, off, rfl, hc, _⟩ := (hkeys.mono (Same.of_box hb)) k hlt
        obtain ⟨x, hx⟩ : ∃ x, keys.getD k 0 = x := ⟨_, rfl⟩
        rw [hx] at hc
        have Hx := Lib.hid hx
        clear hx
        have hltv : k < kids.length := by have := HL.out; omega
        obtain ⟨b2, off2, ka', kc', va', vc', s', keys', kids', kq, n', rfl, hlk, g0, _, _, _, _, _⟩ := kid_full (KidsIn.mono (Same.of_box hb) _ _ _ hkids) k hltv
        have Hlk := Lib.hid hlk
        clear hlk
        have hltv' : (k : Int) < (kids.length : Int) := by omega
        have Hbad : Hid (okKey keys 1000000000 false k = false → sequenceB (.mk kd n s keys kids) = false) := Lib.hid (fun hf => by rw [HB.out]; unfold keysB; rw [all_no hlt hf]; simp)
        have Hbad2 : Hid (kq = 10 → sequenceB (.mk kd n s keys kids) = false) := Lib.hid (fun hf => by
          have : noSeq kids = false := by
            unfold noSeq; rw [List.all_eq_false]; exact ⟨kids[k], List.getElem_mem hltv, by rw [Hlk.out]; simp [T.kind, hf]⟩
          rw [HB.out, this]; simp)
        have Hgood2 : Hid (kq ≠ 10 → ∀ j, (h : j < kids.length) → j < k + 1 → (!decide (kids[j].kind = 10)) = true) := Lib.hid (fun hf j hj hj' => by
          by_cases e : j = k
          · subst e; rw [Hlk.out]; simp [T.kind, hf]
          · exact Hok2.out j hj (by omega))
        clear Hlk
        by_cases h1 : x < 0
        · go_wp2_with fail
          go_ret
          exact ⟨ret_bool (Hbad.out (okKey_lt Hx h1)).symm, box_out hb⟩
        by_cases h2 : 1000000000 < x
        · go_wp2_with fail
          go_ret
          exact ⟨ret_bool (Hbad.out (okKey_gt Hx h2)).symm, box_out hb⟩
        by_cases h3 : k = 0
        · subst h3
          simp only [Nat.add_zero, Nat.zero_mul] at hc g0
          by_cases h5 : kq = 10
          · have h5' : (kq == 10) = true := by simp [h5]
            have H5 := Lib.hid h5
            clear h5
            go_wp2_with fail
            go_ret
            exact ⟨ret_bool (Hbad2.out H5.out).symm, box_out hb⟩
          · have h5' : (kq == 10) = false := by simp [h5]
            have H5 := Lib.hid h5
            clear h5
            go_wp2_with fail
            go_roundw
            case rel => exact ⟨0 + 1, rfl, by omega, ok_snoc Hok (okKey_zero Hx (by omega) (by omega)), Hgood2.out H5.out, hb⟩
            case measure => simp [intOf]; omega
        · obtain ⟨b', off', hbo, hc', _⟩ := (hkeys.mono (Same.of_box hb)) (k - 1) (by omega)
          cases hbo
          obtain ⟨y, hy⟩ : ∃ y, keys.getD (k - 1) 0 = y := ⟨_, rfl⟩
          rw [hy] at hc'
          have Hy := Lib.hid hy
          clear hy
          have h3p : 0 < k := by omega
          by_cases h4 : x < y
          · go_wp2_with fail
            go_ret
            exact ⟨ret_bool (Hbad.out (okKey_falls Hx Hy h3 h4)).symm, box_out hb⟩
          · by_cases h5 : kq = 10
            · have h5' : (kq == 10) = true := by simp [h5]
              have H5 := Lib.hid h5
              clear h5
              go_wp2_with fail
              go_ret
              exact ⟨ret_bool (Hbad2.out H5.out).symm, box_out hb⟩
            · have h5' : (kq == 10) = false := by simp [h5]
              have H5 := Lib.hid h5
              clear h5
              go_wp2_with fail
              go_roundw
              case rel => exact ⟨k + 1, by go_num, by omega, ok_snoc Hok (okKey_next' Hx Hy (by omega) (by omega) (by omega)), Hgood2.out H5.out, hb⟩
              case measure => simp [intOf]; omega
      · go_wp2_with fail
        go_ret
        refine ⟨ret_bool ?_, box_out hb⟩
        have e1 : keysB keys 1000000000 false = true := all_yes fun j hj => Hok.out j (by omega)
        have e2 : noSeq kids = true := by
          unfold noSeq; rw [List.all_eq_true]; intro t ht; obtain ⟨j, hj, rfl⟩ := List.getElem_of_mem ht; exact Hok2.out j hj (by have := HL.out; omega)
        rw [HB.out, e1, e2]; rfl
end Go.Proofs.YtfbeeaibejggdaaDoor
