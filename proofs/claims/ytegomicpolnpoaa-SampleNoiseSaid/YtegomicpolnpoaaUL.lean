/- The program's Encode. -/
import Derived.Test.YtegomicpolnpoaaUK
import Derived.Test.YtegomicpolnpoaaUH
import Derived.Test.YtegomicpolnpoaaSG
namespace Go.Proofs.Ytegomicpolnpoaa
open Go.RowKit Go.Deep Go.Shelf
set_option maxRecDepth 100000 in
theorem round70_any {e : Nat} (h1 : 1 ≤ e) (h8 : e ≤ 8) (ch : Int) {s : Int} (hs : okS s) (B : Nat) (w : World) (hc : w.cell? ⟨B, 0, none⟩ = some (cdv e)) :
    Calls Try.prog 70 #[.int .i64 ch, .int .i64 s, at0 B] w fun x w' => x = .returned (.int .i64 (lvl (bitsN e) s)) ∧ Below w.heap.size w w' := by
  have hl := levelOf_any h1 h8 s w (by unfold okS at hs; omega) (by unfold okS at hs; omega)
  generalize cdv e = X at *
  go_enter Try.func70, Try.ntmps70
  go_wp2_with (go_at_call 55; (with_reducible refine hl.mono ?_); rintro x w1 ⟨rfl, hb1⟩; have HB1 := Lib.hid hb1; clear hb1)
  go_ret
  exact ⟨rfl, HB1.out⟩

theorem lvTo_plain (g : Int → Int) (m : List (List Int)) : ∀ (l : List (Nat × Nat)), ∀ y ∈ lvTo (fun (_ : Unit) _ s => g s) (fun _ _ _ => ()) m () l, y.2 = g (smpAt m y.1)
  | [], y, h => by cases h
  | x :: l, y, h => by
    rcases List.mem_cons.1 h with rfl | h
    · rfl
    · exact lvTo_plain g m l y h
theorem smp_lvM {e : Nat} {m : List (List Int)} {x : Nat × Nat} (h1 : x.1 < m.length) (h2 : x.2 < (m.getD x.1 []).length) : smpAt (lvM e m) x = lvl (bitsN e) (smpAt m x) := by
  unfold smpAt
  rw [lvM_at h1, lvR_at h2]
theorem validB_smp {m : List (List Int)} (h : validB m = true) : ∀ j k, j < m.length → k < cols m → okS ((m.getD j []).getD k 0) := by
  intro j k hj hk
  have hl := (validB_parts h).2.2.2 j hj
  unfold validB at h
  rw [Bool.and_eq_true, Bool.and_eq_true] at h
  have := all_at (d := []) h.2 hj
  simp only [rowOk, Bool.and_eq_true] at this
  have h2 := all_at (d := 0) this.2 (by rw [hl]; exact hk)
  unfold okS
  simp only [inB, Bool.and_eq_true, decide_eq_true_eq] at h2
  omega
/-- The bytes of a block. -/
def bytesOf (e : Nat) (p : Bool) (m : List (List Int)) : ByteArray := laidS e p (lvM e m) (cols m) (cols m * m.length)
theorem bytesOf_L {e : Nat} {p : Bool} {m : List (List Int)} (hc : ∀ j, j < m.length → (m.getD j []).length = cols m) : bytesOf e p m = laidL e p m.length (cols m) (fun x => lvl (bitsN e) (smpAt m x)) (cols m * m.length) := by
  unfold bytesOf
  rw [laidS_L, lvM_len]
  refine laidL_congr _ fun k hk => ?_
  have h := spot_lt (p := p) hk
  exact smp_lvM h.1 (by rw [hc _ h.1]; exact h.2)

set_option maxHeartbeats 1000000 in
set_option maxRecDepth 100000 in
theorem enc1_yes {e : Nat} (h1 : 1 ≤ e) (h8 : e ≤ 8) (p : Bool) (m : List (List Int)) (v : Value) (Bb Be Bp : Nat) (w : World) (hM : MatIn w m v) (hv : validB m = true)
    (k0 : w.cell? ⟨Bb, 0, none⟩ = some v) (k1 : w.cell? ⟨Be, 0, none⟩ = some (.int .i64 e)) (k2 : w.cell? ⟨Bp, 0, none⟩ = some (.bool p)) :
    Calls Try.prog 67 #[at0 Bb, at0 Be, at0 Bp] w (Gives (isV (.string (bytesOf e p m))) w) := by
  have h68 := validBlock_any m v w hM
  rw [hv] at h68
  have hmu := must_yes 1 w
  have hcd := coder_any h1 h8 w
  obtain ⟨hr1, hr8, hc4, hc⟩ := validB_parts hv
  have hok := validB_smp hv
  have hmf := makes
  have hbo := bytesOf_L (e := e) (p := p) hc
  obtain ⟨a, ca, hva, hin, hal, _⟩ := id hM
  have hw69 : ∀ W : World, W = w.alloc (.cells #[cdv e] 70) → Calls Try.prog 69 #[cdv e, .bool p, v, .func (.func 70) #[] #[at0 w.heap.size]] W fun x w' => x = .returned (.string (bytesOf e p m)) ∧ Below w.heap.size w w' := by
    rintro W rfl
    have hbW : Below w.heap.size w (w.alloc (.cells #[cdv e] 70)) := (Below.refl _ w).alloc (Nat.le_refl _) _
    have hcW : (w.alloc (.cells #[cdv e] 70)).cell? ⟨w.heap.size, 0, none⟩ = some (cdv e) := by simp [go_sem]
    refine (written_any (σ := Unit) h1 h8 p m v (cols m) w.heap.size (w.heap.size + 1) 70 #[at0 w.heap.size] (fun _ X => X.cell? ⟨w.heap.size, 0, none⟩ = some (cdv e)) (fun _ _ s => lvl (bitsN e) s) (fun _ _ _ => ()) () _ ?_ hr1 hr8 hc hc4 hok (Nat.le_succ _) (by simp) ⟨enters_of Try.func70 (by kernel_rfl) rfl, ?_, ?_⟩ hcW (fun x => lvl (bitsN e) (smpAt m x)) (lvTo_plain _ _ _)).mono ?_
    · exact fun X hX => hM.mono (Same.of_below (hbW.trans hX))
    · intro s X Y row hs hg hr
      exact (World.cell?_of_block (w := X) (a := ⟨w.heap.size, 0, none⟩) (hg.block w.heap.size (cell_lt hs) (fun e => by have := hr _ e.symm; simp at this; omega))).trans hs
    · intro s X ch smp hX hs _ hsm
      refine (round70_any h1 h8 ch hsm w.heap.size X hs).mono ?_
      rintro x w' ⟨rfl, hb⟩
      have hok := (okLv_lvl h1 h8 hsm).1
      exact ⟨rfl, hok, (hb.cell (p := ⟨w.heap.size, 0, none⟩) (cell_lt hs)).trans hs, KpB.of_below (Nat.le_trans hbW.size hX.size) hb, others_of_below hb⟩
    · rintro x w' ⟨rfl, _, hk⟩
      exact ⟨by rw [hbo], hbW.trans hk.1⟩
  have HM := Lib.hid hM
  clear hin hM hbo hva hv
  unfold cdv at hcd hw69
  generalize cdT e = T at *
  generalize cdX e = X at *
  have HW := Lib.hid hw69
  clear hw69
  have k0' : ∀ Z, (w.alloc Z).cell? ⟨Bb, 0, none⟩ = some v := fun Z => (Same.alloc _ Z).cell k0
  have k2' : ∀ Z, (w.alloc Z).cell? ⟨Bp, 0, none⟩ = some (.bool p) := fun Z => (Same.alloc _ Z).cell k2
  go_enter Try.func67, Try.ntmps67
  go_wp2_with (first
    | (go_at_call 68; (with_reducible refine h68.mono ?_); rintro e w1 ⟨rfl, rfl⟩)
    | (go_at_call 53; (with_reducible refine hmu.mono ?_); rintro e w1 ⟨rfl, rfl⟩)
    | (go_at_call 51; (with_reducible refine hcd.mono ?_); rintro e w1 ⟨rfl, rfl⟩)
    | (go_at_call 69; (with_reducible refine (HW.out _ rfl).mono ?_); rintro e w1 ⟨rfl, hb⟩; have HB := Lib.hid hb; clear hb))
  go_ret
  exact ⟨_, rfl, rfl, HB.out⟩
set_option maxRecDepth 100000 in
theorem enc1_inv (m : List (List Int)) (v : Value) (Bb Be Bp : Nat) (w : World) (hM : MatIn w m v) (hv : validB m = false) (k0 : w.cell? ⟨Bb, 0, none⟩ = some v) :
    Calls Try.prog 67 #[at0 Bb, at0 Be, at0 Bp] w (LeavesX 1 w) := by
  have h68 := validBlock_any m v w hM
  rw [hv] at h68
  have hmu := must_no 1 w
  clear hv hM
  go_enter Try.func67, Try.ntmps67
  go_wp2_with (first
      | (go_at_call 68; (with_reducible refine h68.mono ?_); rintro e w1 ⟨rfl, rfl⟩)
      | (go_at_call 53; (with_reducible refine hmu.mono ?_); rintro e w1 ⟨rfl, rfl⟩))
  exact ⟨rfl, rfl, Below.refl _ w⟩
set_option maxRecDepth 100000 in
theorem enc1_range (n : Int) (hn : encB n = false) (m : List (List Int)) (v : Value) (Bb Be Bp : Nat) (w : World) (hM : MatIn w m v) (hv : validB m = true) (k0 : w.cell? ⟨Bb, 0, none⟩ = some v) (k1 : w.cell? ⟨Be, 0, none⟩ = some (.int .i64 n)) :
    Calls Try.prog 67 #[at0 Bb, at0 Be, at0 Bp] w (LeavesX 7 w) := by
  have h68 := validBlock_any m v w hM
  rw [hv] at h68
  have hmu := must_yes 1 w
  have hcd := coder_no hn w
  clear hv hM hn
  go_enter Try.func67, Try.ntmps67
  go_wp2_with (first
      | (go_at_call 68; (with_reducible refine h68.mono ?_); rintro e w1 ⟨rfl, rfl⟩)
      | (go_at_call 53; (with_reducible refine hmu.mono ?_); rintro e w1 ⟨rfl, rfl⟩)
      | (go_at_call 51; (with_reducible refine hcd.mono ?_); rintro e w1 ⟨rfl, rfl⟩))
  exact ⟨rfl, rfl, Below.refl _ w⟩

/-- What Encode answers. -/
def encA (n : Int) (p : Bool) (m : List (List Int)) : ByteArray × Int := if validB m then (if encB n then (bytesOf n.toNat p m, 0) else (⟨#[]⟩, 7)) else (⟨#[]⟩, 1)
def StrAns (w : World) (a : ByteArray × Int) (e : Ending) (w' : World) : Prop := e = .returned (.tuple #[.string a.1, .int .i64 a.2]) ∧ Below w.heap.size w w'

set_option maxRecDepth 100000 in
theorem encode_any (n : Int) (p : Bool) (m : List (List Int)) (v : Value) (w : World) (hM : MatIn w m v) : Calls Try.prog 20 #[.int .i64 n, .bool p, v] w (StrAns w (encA n p m)) := by
  have hmf := makes
  obtain ⟨a, ca, rfl, hin, hal, hac⟩ := id hM
  obtain ⟨W3, hW3⟩ : ∃ W3, ((w.alloc (.cells #[.int .i64 n] 3)).alloc (.cells #[.bool p] 4)).alloc (.cells #[.slice a m.length ca] 30) = W3 := ⟨_, rfl⟩
  have hbel : Below w.heap.size w W3 := by rw [← hW3]; exact (((Below.refl _ w).alloc (Nat.le_refl _) _).alloc (by simp) _).alloc (by simp; omega) _
  have k1 : ∀ Z, (W3.alloc Z).cell? ⟨w.heap.size, 0, none⟩ = some (.int .i64 n) := fun Z => by refine (Same.alloc _ Z).cell ?_; rw [← hW3]; simp [go_sem]
  have k2 : ∀ Z, (W3.alloc Z).cell? ⟨w.heap.size + 1, 0, none⟩ = some (.bool p) := fun Z => by refine (Same.alloc _ Z).cell ?_; rw [← hW3]; simp [go_sem]
  have k0 : ∀ Z, (W3.alloc Z).cell? ⟨w.heap.size + 1 + 1, 0, none⟩ = some (.slice a m.length ca) := fun Z => by refine (Same.alloc _ Z).cell ?_; rw [← hW3]; simp [go_sem]
  have hM3 : ∀ Z, MatIn (W3.alloc Z) m (.slice a m.length ca) := fun Z => (hM.mono (Same.of_below hbel)).mono (Same.alloc _ Z)
  have hf : Calls Try.prog 66 #[.func (.func 67) #[] #[at0 (w.heap.size + 1 + 1), at0 w.heap.size, at0 (w.heap.size + 1)]] W3 fun e w' => e = .returned (.tuple #[.string (encA n p m).1, .int .i64 (encA n p m).2]) ∧ Below W3.heap.size W3 w' := by
    unfold encA
    by_cases hv : validB m = true
    · rw [if_pos hv]
      by_cases hn : encB n = true
      · rw [if_pos hn]
        obtain ⟨e1, e2⟩ := encB_t hn
        obtain ⟨e, rfl⟩ : ∃ e : Nat, n = e := ⟨n.toNat, by omega⟩
        rw [Int.toNat_natCast]
        refine (fitted66_ok 67 _ W3 (isV (.string (bytesOf e p m))) (fun _ _ _ _ h => h) (enters_of Try.func67 (by kernel_rfl) rfl _) (enc1_yes (by omega) (by omega) p m _ _ _ _ _ (hM3 _) hv (k0 _) (k1 _) (k2 _))).mono ?_
        rintro x w' ⟨u, rfl, rfl, hb⟩
        exact ⟨rfl, hb⟩
      · rw [if_neg hn]
        exact fitted66_no 67 _ 7 W3 (enters_of Try.func67 (by kernel_rfl) rfl _) (enc1_range n (by simpa using hn) m _ _ _ _ _ (hM3 _) hv (k0 _) (k1 _))
    · rw [if_neg hv]
      exact fitted66_no 67 _ 1 W3 (enters_of Try.func67 (by kernel_rfl) rfl _) (enc1_inv m _ _ _ _ _ (hM3 _) (by simpa using hv) (k0 _))
  subst hW3
  have HBL := Lib.hid hbel
  have HF := Lib.hid hf
  clear hbel k0 k1 k2 hM3 hM hin hf
  unfold StrAns
  go_enter Try.func20, Try.ntmps20
  go_wp2_with (go_at_call 66; (with_reducible refine HF.out.mono ?_); rintro e w1 ⟨rfl, hb1⟩)
  go_ret2
  exact ⟨rfl, HBL.out.trans (hb1.mono HBL.out.size)⟩
end Go.Proofs.Ytegomicpolnpoaa
