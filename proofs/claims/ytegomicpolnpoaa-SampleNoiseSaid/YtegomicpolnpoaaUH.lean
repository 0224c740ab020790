/- The reference's Encode. -/
import Derived.Test.YtegomicpolnpoaaUF
import Derived.Test.YtegomicpolnpoaaTE
namespace Go.Proofs.Ytegomicpolnpoaa
open Go.RowKit Go.Deep Go.Shelf

def lvR (e : Nat) (r : List Int) : List Int := r.map (lvl (bitsN e))
def lvM (e : Nat) (m : List (List Int)) : List (List Int) := m.map (lvR e)
theorem lvR_len (e : Nat) (r : List Int) : (lvR e r).length = r.length := by simp [lvR]
theorem lvM_len (e : Nat) (m : List (List Int)) : (lvM e m).length = m.length := by simp [lvM]
theorem lvR_at {e : Nat} {r : List Int} {k : Nat} (h : k < r.length) : (lvR e r).getD k 0 = lvl (bitsN e) (r.getD k 0) := by simp [lvR, List.getD, h]
theorem lvM_at {e : Nat} {m : List (List Int)} {k : Nat} (h : k < m.length) : (lvM e m).getD k [] = lvR e (m.getD k []) := by simp [lvM, List.getD, h]
theorem okLv_lvl {e : Nat} (h1 : 1 ≤ e) (h8 : e ≤ 8) {s : Int} (h : okS s) : okLv e (lvl (bitsN e) s) := by
  have hb : ∀ n k : Int, 0 ≤ k → -k ≤ bnd n k ∧ bnd n k ≤ k := fun n k hk => by unfold bnd; omega
  unfold okLv
  rcases (by omega : e = 1 ∨ e = 2 ∨ e = 3 ∨ e = 4 ∨ e = 5 ∨ e = 6 ∨ e = 7 ∨ e = 8) with rfl | rfl | rfl | rfl | rfl | rfl | rfl | rfl
  · have := hb (rnd s 65536) 127 (by decide); rw [show lvl (bitsN 1) s = bnd (rnd s 65536) 127 from rfl]; omega
  · have := hb (rnd s 65536) 127 (by decide); rw [show lvl (bitsN 2) s = bnd (rnd s 65536) 127 from rfl]; omega
  · have := hb (rnd s 256) 32767 (by decide); rw [show lvl (bitsN 3) s = bnd (rnd s 256) 32767 from rfl]; omega
  · have := hb (rnd s 256) 32767 (by decide); rw [show lvl (bitsN 4) s = bnd (rnd s 256) 32767 from rfl]; omega
  · have := hb s 8388607 (by decide); rw [show lvl (bitsN 5) s = bnd s 8388607 from rfl]; omega
  · have := hb s 8388607 (by decide); rw [show lvl (bitsN 6) s = bnd s 8388607 from rfl]; omega
  · have := hb (s * 256) 2147483647 (by decide); rw [show lvl (bitsN 7) s = bnd (s * 256) 2147483647 from rfl]; omega
  · have := hb (s * 256) 2147483647 (by decide); rw [show lvl (bitsN 8) s = bnd (s * 256) 2147483647 from rfl]; omega

set_option maxHeartbeats 4000000 in
set_option maxRecDepth 100000 in
theorem refEncode_yes {e : Nat} (h1 : 1 ≤ e) (h8 : e ≤ 8) (p : Bool) (m : List (List Int)) (v : Value) (w : World) (hM : MatIn w m v) (hv : validB m = true) (hr1 : 1 ≤ m.length) (hr8 : m.length ≤ 8) (c : Nat) (hc : ∀ j, j < m.length → (m.getD j []).length = c) (hc4 : c ≤ 4096)
    (hs : ∀ j k, j < m.length → k < c → okS ((m.getD j []).getD k 0)) :
    Calls Try.prog 21 #[.int .i64 e, .bool p, v] w fun x w' => x = .returned (.tuple #[.string (laidS e p (lvM e m) c (c * m.length)), .int .i64 0]) ∧ Below w.heap.size w w' := by
  have hva := refValidBlock_any m v w hM
  rw [hv] at hva
  have hbt := fun x => refBits_yes h1 h8 x
  have HLV := Lib.hid (fun (x : World) s h => levelled_any h1 h8 s x h)
  have HS := Lib.hid hs
  have HC := Lib.hid hc
  have HM := Lib.hid hM
  obtain ⟨i1, hi1, hy0, hy1, hy2⟩ := info_parts Try.info34
  obtain ⟨a, ca, rfl, hin, hal, _⟩ := id hM
  clear hs hc hM hin hv
  go_enter Try.func21, Try.ntmps21
  go_wp2_with (first
    | (go_at_call 42; (with_reducible refine hva.mono ?_); rintro e w1 ⟨rfl, hb1⟩; have HB1 := Lib.hid hb1; clear hb1)
    | (go_at_call 11; (with_reducible refine (hbt _).mono ?_); rintro e w2 ⟨rfl, rfl⟩))
  have HM1 := Lib.hid (HM.out.mono (Same.of_below HB1.out))
  clear hva hbt
  go_loopw [10, 11] (fun v i wr => ∃ (k : Nat) (vals : List Value), i = .int .i64 k ∧ k ≤ m.length ∧ Rz w1 wr ((lvM e m).take k) vals v) (fun _ i _ => m.length - (RowKit.intOf i).toNat)
  case atStart => exact ⟨0, [], rfl, Nat.zero_le _, by simpa using Rz.start w1⟩
  case round =>
    obtain ⟨k, vals, rfl, hk, hz⟩ := hrel
    by_cases hlt : k < m.length
    · have w4 : (k : Int) < (m.length : Int) := by omega
      have HZ := Lib.hid hz
      have hck := HC.out k hlt
      have HCK := Lib.hid hck
      have HSK := Lib.hid (fun j hj => HS.out k j hlt hj)
      obtain ⟨r, hr⟩ : ∃ r, m.getD k [] = r := ⟨_, rfl⟩
      rw [hr] at HSK HCK hck
      have HR := Lib.hid hr
      clear hz hr
      go_wp2_with fail
      obtain ⟨wo, hwo⟩ : ∃ wo : World, wo = wr := ⟨_, rfl⟩
      rw [← hwo] at HZ ⊢
      clear hwo
      go_loopw [12, 13] (fun v i wx => ∃ f : Nat, i = .int .i64 f ∧ f ≤ c ∧ wx.ownsRow wo.heap.size 3 1 v f (((lvR e r).take f).map (Value.int .i64)) ∧ Below wo.heap.size wo wx) (fun _ i _ => c - (RowKit.intOf i).toNat)
      case atStart => exact ⟨0, rfl, Nat.zero_le _, by simpa using World.ownsRow_nil _ _ _ _, Below.refl _ _⟩
      case round =>
        obtain ⟨f, rfl, hf, ho, hbx⟩ := hrel
        obtain ⟨a9, ca9, e9, hin9, _, _⟩ := HM1.out.mono (Same.of_below (Below.then HZ.out.below (Nat.le_refl _) hbx))
        simp only [Value.slice.injEq, true_and] at e9
        obtain ⟨rfl, rfl⟩ := e9
        obtain ⟨b1, o1, u1, e1, hc1, hu1⟩ := hin9 k hlt
        cases e1
        obtain ⟨a2', ca2, rfl, hint, hl2, hcap2⟩ := hu1
        rw [HR.out] at hc1 hint hl2 hcap2
        rw [HCK.out] at hc1 hl2 hcap2
        have d1 : decide (k < m.length) = true := decide_eq_true hlt
        have d2 : decide ((k : Int) < (m.length : Int)) = true := decide_eq_true (by omega)
        have HO := Lib.hid ho
        have HBX := Lib.hid hbx
        clear ho hbx hin9
        by_cases hlt2 : f < c
        · obtain ⟨b2, o2, rfl, hc2, hI2⟩ := hint f (by rw [hck]; exact hlt2)
          have w5 : (f : Int) < (c : Int) := by omega
          have d3 : decide (f < c) = true := decide_eq_true hlt2
          have d4 : decide ((f : Int) < (c : Int)) = true := decide_eq_true (by omega)
          have hok := HSK.out f hlt2
          have HROW : Hid (((lvR e r).take (f + 1)).map (Value.int .i64) = ((lvR e r).take f ++ [lvl (bitsN e) (r.getD f 0)]).map (Value.int .i64)) := Lib.hid (by
            rw [take_snocD (lvR e r) f 0 (by rw [lvR_len]; omega), lvR_at (by omega)])
          generalize hsv : r.getD f 0 = sv at *
          have HL1 := Lib.hid (fun x => HLV.out x sv hok)
          clear hint hsv hok hI2
          go_wp2_with (first
            | (go_at_call 56; (with_reducible refine (HL1.out _).mono ?_); rintro x wy ⟨rfl, hby⟩; have HBY := Lib.hid hby; clear hby)
            | (at_builtin; refine wpList_append_ints rfl (.tmp 40) (.tmp 50) rfl wo.heap.size _ f ((lvR e r).take f) rfl (owns_below HO.out (HBY.out.alloc HBY.out.size _)) _ 1 1 rfl [lvl (bitsN e) sv] rfl ?c1 ?c2 ?c3 ?_))
          case c1 =>
            intro _
            exact ⟨_, rfl, fun j hj => by obtain rfl : j = 0 := by omega
                                          simp [go_sem]⟩
          case c2 => omega
          case c3 => have := HBX.out.size; have := HBY.out.size; simp; omega
          intro v2 w2 h21 h22 h23
          have hn1 : w2.ownsRow wo.heap.size 3 1 v2 (f + 1) (((lvR e r).take (f + 1)).map (Value.int .i64)) := by rw [HROW.out]; simpa using h21
          have hn2 : Below wo.heap.size wo w2 := ((Below.then HBX.out (Nat.le_refl _) HBY.out).alloc (by have := HBX.out.size; have := HBY.out.size; omega) _).grown h22 (by have := HBX.out.size; have := HBY.out.size; simp; omega) (fun g hg => (HO.out.lt g hg).1)
          have HN1 := Lib.hid hn1
          have HN2 := Lib.hid hn2
          clear h21 h22 h23 hn1 hn2
          go_wp2_with fail
          go_roundw
          case rel => exact ⟨f + 1, by go_num, by omega, HN1.out, HN2.out⟩
          case measure => simp [RowKit.intOf]; omega
        · obtain rfl : f = c := by omega
          have w5 : ¬ (f : Int) < (f : Int) := by omega
          obtain ⟨p1, l1, c1, he12⟩ : ∃ p l c, u12 = .slice p l c := by
            rcases HO.out.2 with ⟨h, _⟩ | ⟨_, _, _, h, _⟩
            · exact ⟨_, _, _, h⟩
            · exact ⟨_, _, _, h⟩
          subst he12
          have hfull : (lvR e r).take f = lvR e r := List.take_of_length_le (by rw [lvR_len]; omega)
          have HO1 : Hid (wr.ownsRow wo.heap.size 3 1 (.slice p1 l1 c1) (lvR e r).length ((lvR e r).map (Value.int .i64))) := Lib.hid (by
            have := HO.out
            rw [hfull] at this
            rw [lvR_len, hck]; exact this)
          have HROW : Hid ((lvM e m).take (k + 1) = (lvM e m).take k ++ [lvR e r] ∧ ((lvM e m).take k).length = k) := Lib.hid ⟨by
            rw [take_snocD _ k [] (by rw [lvM_len]; exact hlt), lvM_at hlt, HR.out], by rw [List.length_take, lvM_len]; omega⟩
          have hok : okRow (lvR e r) := ⟨by rw [lvR_len]; omega, fun i hi => by
            rw [lvR_len] at hi
            rw [lvR_at hi]
            have := (okLv_lvl h1 h8 (HSK.out i (by omega))).1
            unfold I64; omega⟩
          have HOK := Lib.hid hok
          have hown2 : (wr.alloc (.cells #[.slice p1 l1 c1] 34)).ownsRow w1.heap.size 34 1 u10 k vals := by
            have := owns_below HZ.out.own (HBX.out.alloc HBX.out.size (.cells #[.slice p1 l1 c1] 34))
            rwa [HROW.out.2] at this
          clear hok hfull hint
          go_wp2_with (at_builtin; refine wpList_append_moves rfl (.tmp 52) (.tmp 54) 29 rfl w1.heap.size 34 i1 _ 1 24 Try.underlying29 hi1 hy0 hy1 hy2 rfl (by decide) u10 k vals rfl hown2 ⟨wr.heap.size, 0, none⟩ 1 1 [.slice p1 l1 c1] rfl rfl ?dd1 ?dd2 ?dd3 ?dd4 ?dd5 ?_)
          case dd2 => rfl
          case dd3 => first | (unfold maxLen; omega) | omega
          case dd4 => omega
          case dd5 => have := HZ.out.below.size; have := HBX.out.size; simp; omega
          intro v2 w2 h21 h22 h23
          have hz2 := HZ.out.step (HBX.out.alloc HBX.out.size (.cells #[.slice p1 l1 c1] 34)) (HO1.out.alloc _) (by rw [HROW.out.2]; exact h21) h22 h23 HOK.out
          rw [← HROW.out.1] at hz2
          have HZ2 := Lib.hid hz2
          clear h21 h22 h23 hz2 hown2
          go_wp2_with fail
          go_roundw
          case rel => exact ⟨k + 1, _, by go_num, by omega, HZ2.out⟩
          case measure => simp [RowKit.intOf]; omega
    · have w4 : ¬ (k : Int) < (m.length : Int) := by omega
      have hkm : k = m.length := by omega
      rw [hkm, List.take_of_length_le (by rw [lvM_len]; exact Nat.le_refl _)] at hz
      have hmat := (hz.mat (by rw [lvM_len]; exact hal)).here
      have hlen := lvM_len e m
      have hla := laid_any h1 h8 p (lvM e m) _ c wr hmat (by omega) (by omega) (fun j hj => by rw [lvM_at (by omega), lvR_len]; exact HC.out j (by omega)) hc4 (fun j q hj hq => by
        rw [lvM_at (by omega), lvR_at (by rw [HC.out j (by omega)]; exact hq)]; exact okLv_lvl h1 h8 (HS.out j q (by omega) hq))
      rw [hlen] at hla
      have HLA := Lib.hid hla
      have HB2 := Lib.hid (HB1.out.trans (hz.below.mono HB1.out.size))
      clear hz hmat hla hlen
      go_wp2_with (go_at_call 71; (with_reducible refine HLA.out.mono ?_); rintro x wz ⟨rfl, hbz⟩; have HBZ := Lib.hid hbz; clear hbz)
      go_ret2
      exact ⟨rfl, HB2.out.trans (HBZ.out.mono HB2.out.size)⟩
end Go.Proofs.Ytegomicpolnpoaa
namespace Go.Proofs.Ytegomicpolnpoaa
open Go.RowKit Go.Deep Go.Shelf

set_option maxRecDepth 100000 in
theorem refEncode_invalid (n : Int) (p : Bool) (m : List (List Int)) (v : Value) (w : World) (hM : MatIn w m v) (hv : validB m = false) :
    Calls Try.prog 21 #[.int .i64 n, .bool p, v] w fun x w' => x = .returned (.tuple #[.string ByteArray.empty, .int .i64 1]) ∧ Below w.heap.size w w' := by
  have hva := refValidBlock_any m v w hM
  rw [hv] at hva
  go_enter Try.func21, Try.ntmps21
  go_wp2_with (go_at_call 42; (with_reducible refine hva.mono ?_); rintro e w1 ⟨rfl, hb1⟩; have HB1 := Lib.hid hb1; clear hb1)
  go_ret2
  exact ⟨rfl, HB1.out⟩
set_option maxRecDepth 100000 in
theorem refEncode_range (n : Int) (hn : encB n = false) (p : Bool) (m : List (List Int)) (v : Value) (w : World) (hM : MatIn w m v) (hv : validB m = true) :
    Calls Try.prog 21 #[.int .i64 n, .bool p, v] w fun x w' => x = .returned (.tuple #[.string ByteArray.empty, .int .i64 7]) ∧ Below w.heap.size w w' := by
  have hva := refValidBlock_any m v w hM
  rw [hv] at hva
  have hbt := fun x => refBits_no hn x
  clear hn
  go_enter Try.func21, Try.ntmps21
  go_wp2_with (first
    | (go_at_call 42; (with_reducible refine hva.mono ?_); rintro e w1 ⟨rfl, hb1⟩; have HB1 := Lib.hid hb1; clear hb1)
    | (go_at_call 11; (with_reducible refine (hbt _).mono ?_); rintro e w2 ⟨rfl, rfl⟩))
  go_ret2
  exact ⟨rfl, HB1.out⟩
end Go.Proofs.Ytegomicpolnpoaa
