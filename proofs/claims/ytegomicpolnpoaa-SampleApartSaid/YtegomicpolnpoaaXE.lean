/- A new dither, the whole. -/
import Derived.Test.YtegomicpolnpoaaXD
namespace Go.Proofs.Ytegomicpolnpoaa
open Go.RowKit Go.Deep Go.Shelf

set_option maxRecDepth 100000 in
theorem newD1_enc {n : Int} (hn : encB n = false) (Be Bs Bc Bh : Nat) (w : World) (ke : w.cell? ⟨Be, 0, none⟩ = some (.int .i64 n)) : Calls Try.prog 90 #[at0 Be, at0 Bs, at0 Bc, at0 Bh] w (LeavesX 7 w) := by
  have hcd := coder_no hn w
  clear hn
  go_enter Try.func90, Try.ntmps90
  go_wp2_with (go_at_call 51; (with_reducible refine hcd.mono ?_); rintro y w1 ⟨rfl, rfl⟩)
  exact ⟨rfl, rfl, Below.refl _ _⟩
set_option maxRecDepth 100000 in
theorem newD1_seed {e : Nat} (h1 : 1 ≤ e) (h8 : e ≤ 8) (seed : Int) (hs : ¬ (1 ≤ seed ∧ seed < 2147483648)) (Be Bs Bc Bh : Nat) (w : World) (ke : w.cell? ⟨Be, 0, none⟩ = some (.int .i64 e)) (ks : w.cell? ⟨Bs, 0, none⟩ = some (.int .i64 seed)) :
    Calls Try.prog 90 #[at0 Be, at0 Bs, at0 Bc, at0 Bh] w (LeavesX 7 w) := by
  have hcd := coder_any h1 h8 w
  rw [show cdv e = .iface (cdT e) (cdX e) from rfl] at hcd
  have hmu := must_no 7 w
  generalize cdT e = T at *
  generalize cdX e = Y at *
  by_cases q : 1 ≤ seed
  · have q2 : ¬ seed < 2147483648 := fun h => hs ⟨q, h⟩
    have q3 : decide (seed < 2147483648) = false := decide_eq_false q2
    clear hs
    go_enter Try.func90, Try.ntmps90
    go_wp2_with (first
      | (go_at_call 51; (with_reducible refine hcd.mono ?_); rintro y w1 ⟨rfl, rfl⟩)
      | (go_at_call 53; (with_reducible refine hmu.mono ?_); rintro y w1 ⟨rfl, rfl⟩))
    exact ⟨rfl, rfl, Below.refl _ _⟩
  · clear hs
    go_enter Try.func90, Try.ntmps90
    go_wp2_with (first
      | (go_at_call 51; (with_reducible refine hcd.mono ?_); rintro y w1 ⟨rfl, rfl⟩)
      | (go_at_call 53; (with_reducible refine hmu.mono ?_); rintro y w1 ⟨rfl, rfl⟩))
    exact ⟨rfl, rfl, Below.refl _ _⟩
set_option maxRecDepth 100000 in
theorem newD1_chan {e : Nat} (h1 : 1 ≤ e) (h8 : e ≤ 8) (seed : Int) (hs1 : 1 ≤ seed) (hs2 : seed < 2147483648) (c : Int) (hc : encB c = false) (Be Bs Bc Bh : Nat) (w : World) (ke : w.cell? ⟨Be, 0, none⟩ = some (.int .i64 e)) (ks : w.cell? ⟨Bs, 0, none⟩ = some (.int .i64 seed)) (kc : w.cell? ⟨Bc, 0, none⟩ = some (.int .i64 c)) :
    Calls Try.prog 90 #[at0 Be, at0 Bs, at0 Bc, at0 Bh] w (LeavesX 7 w) := by
  have hcd := coder_any h1 h8 w
  rw [show cdv e = .iface (cdT e) (cdX e) from rfl] at hcd
  have hch := ch_any c w
  rw [hc] at hch
  have hmy := must_yes 7 w
  have hmn := must_no 7 w
  generalize cdT e = T at *
  generalize cdX e = Y at *
  clear hc
  go_enter Try.func90, Try.ntmps90
  go_wp2_with (first
      | (go_at_call 51; (with_reducible refine hcd.mono ?_); rintro y w1 ⟨rfl, rfl⟩)
      | (go_at_call 62; (with_reducible refine hch.mono ?_); rintro y w1 ⟨rfl, rfl⟩)
      | (go_at_call 53; (with_reducible refine hmy.mono ?_); rintro y w1 ⟨rfl, rfl⟩)
      | (go_at_call 53; (with_reducible refine hmn.mono ?_); rintro y w1 ⟨rfl, rfl⟩))
  exact ⟨rfl, rfl, Below.refl _ _⟩
set_option maxRecDepth 100000 in
theorem newD1_kind {e : Nat} (h1 : 4 < e) (h8 : e ≤ 8) (seed : Int) (hs1 : 1 ≤ seed) (hs2 : seed < 2147483648) (c : Int) (hc : encB c = true) (Be Bs Bc Bh : Nat) (w : World) (ke : w.cell? ⟨Be, 0, none⟩ = some (.int .i64 e)) (ks : w.cell? ⟨Bs, 0, none⟩ = some (.int .i64 seed)) (kc : w.cell? ⟨Bc, 0, none⟩ = some (.int .i64 c)) :
    Calls Try.prog 90 #[at0 Be, at0 Bs, at0 Bc, at0 Bh] w (LeavesX 10 w) := by
  have hcd := coder_any (show 1 ≤ e by omega) h8 w
  rw [show cdv e = .iface (cdT e) (cdX e) from rfl] at hcd
  obtain ⟨bm, hbm, hbe, hbits⟩ := isCd (show 1 ≤ e by omega) h8
  have hch := ch_any c w
  rw [hc] at hch
  have hmy := must_yes 7 w
  have HMN := Lib.hid (must_no 10)
  have hbb : ∃ k : Int, (bitsN e : Int) = k ∧ 24 ≤ k ∧ k ≤ 32 := ⟨_, rfl, by unfold bitsN; omega, by unfold bitsN; omega⟩
  obtain ⟨k, hk, hk1, hk2⟩ := hbb
  rw [hk] at hbits
  have hd : decide (k < 24) = false := decide_eq_false (by omega)
  generalize cdT e = T at *
  generalize cdX e = Y at *
  have HB := Lib.hid hbits
  clear hc hbits hk
  go_enter Try.func90, Try.ntmps90
  go_wp2_with (first
      | (go_at_call 51; (with_reducible refine hcd.mono ?_); rintro y w1 ⟨rfl, rfl⟩)
      | (go_at_call 62; (with_reducible refine hch.mono ?_); rintro y w1 ⟨rfl, rfl⟩)
      | (go_at_call 53; (with_reducible refine hmy.mono ?_); rintro y w1 ⟨rfl, rfl⟩))
  refine (HB.out _).mono ?_
  rintro y w1 ⟨rfl, hb1⟩
  have HB1 := Lib.hid hb1
  clear hb1
  go_wp2_with (go_at_call 53; (with_reducible refine (HMN.out _).mono ?_); rintro y w1 ⟨rfl, rfl⟩)
  exact ⟨rfl, rfl, HB1.out⟩

/-- What NewDither answers. -/
def dithE (n seed c : Int) : Int := if encB n = false then 7 else if ¬ (1 ≤ seed ∧ seed < 2147483648) then 7 else if encB c = false then 7 else if 4 < n then 10 else 0
def DRes (B : Nat) (n seed c : Int) (sh : Bool) (u : Value) (w' : World) : Prop := (dithE n seed c = 0 → NewD B c.toNat n.toNat sh seed u w') ∧ (dithE n seed c ≠ 0 → u = .pointer none)
def DAns (w : World) (n seed c : Int) (sh : Bool) (e : Ending) (w' : World) : Prop := ∃ u, e = .returned (.tuple #[u, .int .i64 (dithE n seed c)]) ∧ DRes w.heap.size n seed c sh u w' ∧ Below w.heap.size w w'
set_option maxHeartbeats 1000000 in
set_option maxRecDepth 100000 in
theorem newD_any (n seed c : Int) (sh : Bool) (w : World) : Calls Try.prog 36 #[.int .i64 n, .int .i64 seed, .int .i64 c, .bool sh] w (DAns w n seed c sh) := by
  have hmf := makes
  obtain ⟨W4, hW4⟩ : ∃ W4, (((w.alloc (.cells #[.int .i64 n] 3)).alloc (.cells #[.int .i64 seed] 3)).alloc (.cells #[.int .i64 c] 3)).alloc (.cells #[.bool sh] 4) = W4 := ⟨_, rfl⟩
  have hbel : Below w.heap.size w W4 := by rw [← hW4]; exact ((((Below.refl _ w).alloc (Nat.le_refl _) _).alloc (by simp) _).alloc (by simp; omega) _).alloc (by simp; omega) _
  have k0 : ∀ Z, (W4.alloc Z).cell? ⟨w.heap.size, 0, none⟩ = some (.int .i64 n) := fun Z => by refine (Same.alloc _ Z).cell ?_; rw [← hW4]; simp [go_sem]
  have k1 : ∀ Z, (W4.alloc Z).cell? ⟨w.heap.size + 1, 0, none⟩ = some (.int .i64 seed) := fun Z => by refine (Same.alloc _ Z).cell ?_; rw [← hW4]; simp [go_sem]
  have k2 : ∀ Z, (W4.alloc Z).cell? ⟨w.heap.size + 1 + 1, 0, none⟩ = some (.int .i64 c) := fun Z => by refine (Same.alloc _ Z).cell ?_; rw [← hW4]; simp [go_sem]
  have k3 : ∀ Z, (W4.alloc Z).cell? ⟨w.heap.size + 1 + 1 + 1, 0, none⟩ = some (.bool sh) := fun Z => by refine (Same.alloc _ Z).cell ?_; rw [← hW4]; simp [go_sem]
  have hsz : W4.heap.size = w.heap.size + 4 := by rw [← hW4]; simp
  have hcf : ∀ W : World, (callFunc 90 #[at0 w.heap.size, at0 (w.heap.size + 1), at0 (w.heap.size + 1 + 1), at0 (w.heap.size + 1 + 1 + 1)]).run Try.prog W = .ok (.enter 90 #[at0 w.heap.size, at0 (w.heap.size + 1), at0 (w.heap.size + 1 + 1), at0 (w.heap.size + 1 + 1 + 1)]) W := enters_of Try.func90 (by kernel_rfl) rfl _
  have hf : Calls Try.prog 89 #[.func (.func 90) #[] #[at0 w.heap.size, at0 (w.heap.size + 1), at0 (w.heap.size + 1 + 1), at0 (w.heap.size + 1 + 1 + 1)]] W4 fun e w' => ∃ u, e = .returned (.tuple #[u, .int .i64 (dithE n seed c)]) ∧ DRes w.heap.size n seed c sh u w' ∧ Below W4.heap.size W4 w' := by
    have bad : ∀ k : Int, dithE n seed c = k → k ≠ 0 → Calls Try.prog 90 #[at0 w.heap.size, at0 (w.heap.size + 1), at0 (w.heap.size + 1 + 1), at0 (w.heap.size + 1 + 1 + 1)] (W4.alloc (.cells #[.int .i64 0] 22)) (LeavesX k (W4.alloc (.cells #[.int .i64 0] 22))) → Calls Try.prog 89 #[.func (.func 90) #[] #[at0 w.heap.size, at0 (w.heap.size + 1), at0 (w.heap.size + 1 + 1), at0 (w.heap.size + 1 + 1 + 1)]] W4 fun e w' => ∃ u, e = .returned (.tuple #[u, .int .i64 (dithE n seed c)]) ∧ DRes w.heap.size n seed c sh u w' ∧ Below W4.heap.size W4 w' := fun k hk hk0 h =>
      (fitted89_no 90 _ k W4 hcf h).mono fun y w' ⟨a, b⟩ => ⟨.pointer none, by rw [hk]; exact a, ⟨fun h0 => absurd (hk ▸ h0) hk0, fun _ => rfl⟩, b⟩
    by_cases q1 : encB n = false
    · exact bad 7 (by unfold dithE; rw [if_pos q1]) (by decide) (newD1_enc q1 _ _ _ _ _ (k0 _))
    · have q1' : encB n = true := by simpa using q1
      obtain ⟨e1, e2⟩ := encB_t q1'
      obtain ⟨e, rfl⟩ : ∃ e : Nat, n = e := ⟨n.toNat, by omega⟩
      by_cases q2 : 1 ≤ seed ∧ seed < 2147483648
      · by_cases q3 : encB c = false
        · exact bad 7 (by unfold dithE; rw [if_neg q1, if_neg (by simpa using q2), if_pos q3]) (by decide) (newD1_chan (by omega) (by omega) seed q2.1 q2.2 c q3 _ _ _ _ _ (k0 _) (k1 _) (k2 _))
        · have q3' : encB c = true := by simpa using q3
          by_cases q4 : (4 : Int) < e
          · exact bad 10 (by unfold dithE; rw [if_neg q1, if_neg (by simpa using q2), if_neg q3, if_pos q4]) (by decide) (newD1_kind (by omega) (by omega) seed q2.1 q2.2 c q3' _ _ _ _ _ (k0 _) (k1 _) (k2 _))
          · have h0 : dithE e seed c = 0 := by unfold dithE; rw [if_neg q1, if_neg (by simpa using q2), if_neg q3, if_neg q4]
            obtain ⟨c1, c2⟩ := encB_t q3'
            obtain ⟨r, rfl⟩ : ∃ r : Nat, c = r := ⟨c.toNat, by omega⟩
            refine (fitted89_new 90 _ W4 (NewD (W4.alloc (.cells #[.int .i64 0] 22)).heap.size r e sh seed) (fun u w1 w2 hk ⟨D, E, a, b, c, d⟩ => ⟨D, E, a, b, c, d.keep (hk D (by simp at b; omega) d.top.lt) (hk E (by simp at c; omega) d.row.lt)⟩) hcf
              (newD1_yes (by omega) (by omega) r (by omega) (by omega) sh seed q2.1 q2.2 _ _ _ _ _ (k0 _) (k1 _) (k2 _) (k3 _))).mono ?_
            rintro y w' ⟨u, rfl, ⟨D, E, a, b, c, d⟩, hb⟩
            simp at b c
            exact ⟨u, by rw [h0], ⟨fun _ => ⟨D, E, a, by omega, by omega, by rw [Int.toNat_natCast, Int.toNat_natCast]; exact d⟩, fun h => absurd h0 h⟩, hb⟩
      · exact bad 7 (by unfold dithE; rw [if_neg q1, if_pos q2]) (by decide) (newD1_seed (by omega) (by omega) seed q2 _ _ _ _ _ (k0 _) (k1 _))
  subst hW4
  have HBL := Lib.hid hbel
  have HF := Lib.hid hf
  clear hbel k0 k1 k2 k3 hsz hcf hf
  unfold DAns
  go_enter Try.func36, Try.ntmps36
  go_wp2_with (go_at_call 89; (with_reducible refine HF.out.mono ?_); rintro y w1 ⟨u, rfl, hu, hb1⟩; have HU := Lib.hid hu; clear hu)
  go_ret2
  exact ⟨_, rfl, HU.out, HBL.out.trans (hb1.mono HBL.out.size)⟩
end Go.Proofs.Ytegomicpolnpoaa
