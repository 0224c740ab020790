/- What two stepped ranges have in common, walked. -/
import Derived.Test.YtlpdeadmiinhoaaGreatDoorHA
namespace Go.Proofs.YtlpdeadmiinhoaaGreatDoor
open Go.RowKit

/-- What lies behind three boxes. -/
def In3 (w : World) (X Y Z : Obj) (wr : World) : Prop := Below (w.heap.size + 3) (((w.alloc X).alloc Y).alloc Z) wr
theorem In3.first (w : World) (X Y Z : Obj) : In3 w X Y Z (((w.alloc X).alloc Y).alloc Z) := Below.refl _ _
theorem In3.size {w wr : World} {X Y Z : Obj} (h : In3 w X Y Z wr) : w.heap.size + 3 ≤ wr.heap.size := by
  have hs : (((w.alloc X).alloc Y).alloc Z).heap.size = w.heap.size + 3 := by simp
  have := Below.size h
  omega
theorem In3.next {w wr w1 : World} {X Y Z : Obj} (h : In3 w X Y Z wr) (hb : Below wr.heap.size wr w1) : In3 w X Y Z w1 := Below.trans h (hb.mono (In3.size h))
theorem In3.drew {w wr : World} {X Y Z : Obj} (h : In3 w X Y Z wr) : In3 w X Y Z wr.drew := Below.drew h
theorem In3.drewN {w wr : World} {X Y Z : Obj} (h : In3 w X Y Z wr) (n : Nat) : In3 w X Y Z (wr.drewN n) := below_drewN h n
theorem In3.out {w wr : World} {X Y Z : Obj} (h : In3 w X Y Z wr) : Below w.heap.size w wr :=
  ((((Below.refl _ w).alloc (Nat.le_refl _) X).alloc (by simp) Y).alloc (by simp; omega) Z).trans (Below.mono h (by omega))
theorem In3.same {w wr : World} {X Y Z : Obj} (h : In3 w X Y Z wr) : Same w wr := Same.of_below h.out
theorem In3.cells {w wr : World} {x0 x1 x2 y0 y1 y2 z0 z1 z2 : Value} {T U V : TypeId} (h : In3 w (.cells #[x0, x1, x2] T) (.cells #[y0, y1, y2] U) (.cells #[z0, z1, z2] V) wr) :
    (wr.cell? ⟨w.heap.size, 0, none⟩ = some x0 ∧ wr.cell? ⟨w.heap.size, 1, none⟩ = some x1 ∧ wr.cell? ⟨w.heap.size, 2, none⟩ = some x2) ∧
    (wr.cell? ⟨w.heap.size + 1, 0, none⟩ = some y0 ∧ wr.cell? ⟨w.heap.size + 1, 1, none⟩ = some y1 ∧ wr.cell? ⟨w.heap.size + 1, 2, none⟩ = some y2) ∧
    (wr.cell? ⟨w.heap.size + 1 + 1, 0, none⟩ = some z0 ∧ wr.cell? ⟨w.heap.size + 1 + 1, 1, none⟩ = some z1 ∧ wr.cell? ⟨w.heap.size + 1 + 1, 2, none⟩ = some z2) := by
  refine ⟨⟨?_, ?_, ?_⟩, ⟨?_, ?_, ?_⟩, ?_, ?_, ?_⟩ <;> (rw [Below.cell h (by simp)]; simp [go_sem])
theorem In3.free {w wr : World} {X Y Z : Obj} {zs : Array Value} {T : TypeId} (hZ : Z = .cells zs T) (h : In3 w X Y Z wr) (o : Nat) : wr.frozen? ⟨w.heap.size + 1 + 1, o, none⟩ = false := by
  rw [Below.frozen h (by simp), hZ]; simp [go_sem]
theorem calls_in3 {w wr : World} {X Y Z : Obj} {f : Nat} {args : Array Value} {v : Value} (h : In3 w X Y Z wr) (c : Calls Tryz.prog f args wr fun e w' => e = .returned v ∧ Below wr.heap.size wr w') :
    Calls Tryz.prog f args wr fun e w' => e = .returned v ∧ In3 w X Y Z w' := c.mono fun e w' ⟨a, b⟩ => ⟨a, h.next b⟩

theorem cand_bound (a b : Sp) (ha : a.Ok) (hb : b.Ok) (k : Nat) (hk : k ≤ 1000) : 0 ≤ cand a b k ∧ cand a b k ≤ 1002000000 := by
  obtain ⟨h1, h2, _⟩ := start_spec a b ha
  obtain ⟨a1, a2, a3, a4, a5⟩ := ha
  obtain ⟨b1, b2, b3, b4, b5⟩ := hb
  have h3 : (k : Int) * a.st ≤ (k : Int) * 1000 := Int.mul_le_mul_of_nonneg_left a5 (by omega)
  have h4 : 0 ≤ (k : Int) * a.st := Int.mul_nonneg (by omega) (by omega)
  unfold cand
  omega
theorem cand_next (a b : Sp) (k : Nat) : cand a b (k + 1) = cand a b k + a.st := by
  unfold cand
  rw [Int.natCast_add, Int.add_mul]; omega
theorem first_at {a b : Sp} {k : Nat} (hk : (k : Int) < b.st) (hno : ∀ j, j < k → bothB a b (cand a b j) = false) (h : bothB a b (cand a b k) = true) : firstC a b = some (cand a b k) := by
  unfold firstC
  rw [Option.map_eq_some_iff]
  exact ⟨k, List.find?_range_eq_some.2 ⟨h, by rw [List.mem_range]; omega, fun j hj => by rw [hno j hj]; rfl⟩, rfl⟩
theorem first_never {a b : Sp} (hno : ∀ j : Nat, (j : Int) < b.st → bothB a b (cand a b j) = false) : firstC a b = none := by
  unfold firstC
  rw [Option.map_eq_none_iff, List.find?_eq_none]
  intro j hj
  rw [List.mem_range] at hj
  rw [hno j (by omega)]
  simp

def zSp : Value := .agg #[.int .i64 0, .int .i64 0, .int .i64 0]
def commonV (a b : Sp) : Value := match firstC a b with
  | none => .tuple #[zSp, .bool false]
  | some f => .tuple #[(outS a b f).val, .bool true]

set_option maxRecDepth 100000 in
set_option maxHeartbeats 3200000 in
theorem common_ll (a b : Sp) (w : World) (ha : a.Ok) (hb : b.Ok) (hml : a.lo < b.lo) (hmn : b.hi < a.hi) :
    Calls Tryz.prog 166 #[a.val, b.val] w fun e w' => e = .returned (commonV a b) ∧ Below w.heap.size w w' := by
  have hna := sp_nice ha
  have hnb := sp_nice hb
  obtain ⟨X, hX⟩ : ∃ X : Obj, X = .cells #[.int .i64 a.lo, .int .i64 a.hi, .int .i64 a.st] 110 := ⟨_, rfl⟩
  obtain ⟨Y, hY⟩ : ∃ Y : Obj, Y = .cells #[.int .i64 b.lo, .int .i64 b.hi, .int .i64 b.st] 110 := ⟨_, rfl⟩
  obtain ⟨Z, hZ⟩ : ∃ Z : Obj, Z = .cells #[.int .i64 0, .int .i64 0, .int .i64 0] 110 := ⟨_, rfl⟩
  have HA := Lib.hid fun (wr : World) (n : Int) (hi : In3 w X Y Z wr) => calls_in3 hi (stepped_has a n wr hna)
  have HB := Lib.hid fun (wr : World) (n : Int) (hi : In3 w X Y Z wr) => calls_in3 hi (stepped_has b n wr hnb)
  have hLm := leastMultiple_nat a.st.toNat b.st.toNat
  have ea : ((a.st.toNat : Nat) : Int) = a.st := by have := ha.2.2.2.1; omega
  have eb : ((b.st.toNat : Nat) : Int) = b.st := by have := hb.2.2.2.1; omega
  rw [ea, eb] at hLm
  obtain ⟨L, hL⟩ : ∃ L, lcmI a.st b.st = L := ⟨_, rfl⟩
  have hL1 : 1 ≤ L := hL ▸ lcmI_pos ha.2.2.2.1 hb.2.2.2.1
  have hL2 : L ≤ 1000000 := hL ▸ lcmI_le' ha.2.2.2.1 hb.2.2.2.1 ha.2.2.2.2 hb.2.2.2.2
  rw [hL] at hLm
  have HL := Lib.hid fun (wr : World) (hi : In3 w X Y Z wr) => calls_in3 hi (hLm wr (by have := ha.2.2.2.1; omega) (by have := hb.2.2.2.1; omega) (by have := ha.2.2.2.2; omega) (by have := hb.2.2.2.2; omega))
  have Hok := Lib.hid (And.intro ha hb)
  have HLL : Hid (lcmC a b = L) := Lib.hid hL
  have HC := Lib.hid fun (wr : World) (h : In3 w X Y Z wr) => In3.cells (hX ▸ hY ▸ hZ ▸ h)
  have HF : In3 w X Y Z (((w.alloc (.cells #[.int .i64 a.lo, .int .i64 a.hi, .int .i64 a.st] 110)).alloc (.cells #[.int .i64 b.lo, .int .i64 b.hi, .int .i64 b.st] 110)).alloc (.cells #[.int .i64 0, .int .i64 0, .int .i64 0] 110)) := hX ▸ hY ▸ hZ ▸ In3.first w X Y Z
  have HFr := Lib.hid fun (wr : World) (o : Nat) (h : In3 w X Y Z wr) => In3.free hZ h o
  have HCB := Lib.hid fun k hk => cand_bound a b ha hb k hk
  have HCN := Lib.hid fun k => cand_next a b k
  have HFA : Hid (∀ k : Nat, (k : Int) < b.st → (∀ j, j < k → bothB a b (cand a b j) = false) → bothB a b (cand a b k) = true → firstC a b = some (cand a b k)) := Lib.hid fun k h1 h2 h3 => first_at h1 h2 h3
  have HFN : Hid ((∀ j : Nat, (j : Int) < b.st → bothB a b (cand a b j) = false) → firstC a b = none) := Lib.hid fun h => first_never h
  have HOut : Hid (∀ f, firstC a b = some f → commonV a b = .tuple #[(outS a b f).val, .bool true]) := Lib.hid fun f h => by unfold commonV; rw [h]
  have HNo : Hid (firstC a b = none → commonV a b = .tuple #[zSp, .bool false]) := Lib.hid fun h => by unfold commonV; rw [h]
  have hmax : max a.lo b.lo = b.lo := by omega
  have hst : start a b = a.lo + (b.lo - a.lo + a.st - 1) / a.st * a.st := by unfold start; rw [hmax]
  have HSt := Lib.hid hst
  obtain ⟨hs1, hs2, _⟩ := start_spec a b ha
  rw [hmax] at hs1 hs2
  have H0 : Hid (cand a b 0 = start a b) := Lib.hid (by unfold cand; simp)
  obtain ⟨a1, a2, a3, a4, a5⟩ := ha
  obtain ⟨b1, b2, b3, b4, b5⟩ := hb
  have hq0 : 0 ≤ (b.lo - a.lo + a.st - 1) / a.st := Int.ediv_nonneg (by omega) (by omega)
  have hq1 : (b.lo - a.lo + a.st - 1) / a.st ≤ 2000000000 := by
    have := Int.ediv_le_self a.st (show 0 ≤ b.lo - a.lo + a.st - 1 by omega)
    omega
  have w4 : (b.lo - a.lo + a.st - 1).tdiv a.st = (b.lo - a.lo + a.st - 1) / a.st := Int.tdiv_eq_ediv_of_nonneg (by omega)
  rw [hst] at hs1 hs2
  obtain ⟨Q, hQ⟩ : ∃ Q, (b.lo - a.lo + a.st - 1) / a.st = Q := ⟨_, rfl⟩
  rw [hQ] at w4 hq0 hq1 hs1 hs2 HSt
  have w1 : IntKind.i64.wrap (b.lo - a.lo) = b.lo - a.lo := IntWalk.i64_in _ (by omega)
  have w2 : IntKind.i64.wrap (b.lo - a.lo + a.st) = b.lo - a.lo + a.st := IntWalk.i64_in _ (by omega)
  have w3 : IntKind.i64.wrap (b.lo - a.lo + a.st - 1) = b.lo - a.lo + a.st - 1 := IntWalk.i64_in _ (by omega)
  have w5 : IntKind.i64.wrap Q = Q := IntWalk.i64_in _ (by omega)
  have w6 : IntKind.i64.wrap (Q * a.st) = Q * a.st := IntWalk.i64_in _ (by omega)
  have w7 : IntKind.i64.wrap (a.lo + Q * a.st) = a.lo + Q * a.st := IntWalk.i64_in _ (by omega)
  have w0 : ¬ a.st = 0 := by omega
  obtain ⟨V, hV⟩ : ∃ V, commonV a b = V := ⟨_, rfl⟩
  rw [hV] at HOut HNo ⊢
  clear hV hLm ea eb hX hY hZ hna hnb hL hmax hst hQ
  obtain ⟨⟨p0, p1, p2⟩, ⟨q0, q1, q2⟩, r0, r1, r2⟩ := HC.out _ HF
  unfold Sp.val at HA HB ⊢
  go_enter Tryz.func166, Tryz.ntmps166
  go_upto_region 2 with fail
  go_quiet (fail)
  have HF2 := HF.drewN nq
  generalize World.drewN _ nq = wz at HF2 ⊢
  clear HF p0 p1 p2 q0 q1 q2 r0 r1 r2 w1 w2 w3 w4 w5 w6 w7
  obtain ⟨⟨p0, p1, p2⟩, ⟨q0, q1, q2⟩, r0, r1, r2⟩ := HC.out _ HF2
  go_wp2_with fail
  clear p0 p1 p2 q0 q1 q2 r0 r1 r2
  go_loopw [7, 34] (fun n i wr => ∃ k : Nat, i = .int .i64 k ∧ n = .int .i64 (cand a b k) ∧ (k : Int) ≤ b.st ∧ (∀ j, j < k → bothB a b (cand a b j) = false) ∧ In3 w X Y Z wr) (fun _ i _ => 1000 - (intOf i).toNat)
  case atStart => exact ⟨0, rfl, by rw [H0.out, HSt.out], by simp; omega, fun _ h => absurd h (Nat.not_lt_zero _), HF2⟩
  case round =>
    obtain ⟨k, rfl, rfl, hk, hno, hi⟩ := hrel
    have Hno := Lib.hid hno
    clear hno HF2
    rename_i wr _
    obtain ⟨⟨p0, p1, p2⟩, ⟨q0, q1, q2⟩, r0, r1, r2⟩ := HC.out _ hi
    obtain ⟨x1, x2⟩ := HCB.out k (by omega)
    obtain ⟨x, hx⟩ : ∃ x, cand a b k = x := ⟨_, rfl⟩
    have Hx := Lib.hid hx
    have Hn : Hid (cand a b (k + 1) = x + a.st) := Lib.hid (by rw [HCN.out, hx])
    rw [hx] at x1 x2 ⊢
    clear hx
    by_cases hlt : (k : Int) < b.st
    · obtain ⟨A, hA⟩ : ∃ A, a.has x = A := ⟨_, rfl⟩
      obtain ⟨B, hB⟩ : ∃ B, b.has x = B := ⟨_, rfl⟩
      have cA := HA.out wr x hi
      have cB := fun (w2 : World) h => HB.out w2 x h
      rw [hA] at cA
      rw [hB] at cB
      have HAB : Hid (bothB a b x = (A && B)) := Lib.hid (by unfold bothB; rw [hA, hB])
      have CB := Lib.hid cB
      clear hA hB cB
      cases A with
      | true =>
        cases B with
        | true =>
          have HFF : Hid (firstC a b = some x) := Lib.hid (by have := HFA.out k hlt Hno.out (by rw [Hx.out, HAB.out]; rfl); rw [Hx.out] at this; exact this)
          go_upto_region 6 with (first
            | (go_at_call 190; (with_reducible refine cA.mono ?_); rintro e w1 ⟨rfl, hi1⟩; obtain ⟨⟨u0, u1, u2⟩, ⟨v0, v1, v2⟩, _⟩ := HC.out _ hi1)
            | (go_at_call 190; (with_reducible refine (CB.out w1 hi1).mono ?_); rintro e w2 ⟨rfl, hi2⟩))
          clear u0 u1 u2 v0 v1 v2
          have HS : Hid (∀ wx : World, In3 w X Y Z wx → wx.cell? ⟨w.heap.size, 1, none⟩ = some (.int .i64 a.hi) ∧ wx.cell? ⟨w.heap.size + 1, 1, none⟩ = some (.int .i64 b.hi) ∧ wx.cell? ⟨w.heap.size, 2, none⟩ = some (.int .i64 a.st) ∧ wx.cell? ⟨w.heap.size + 1, 2, none⟩ = some (.int .i64 b.st) ∧ In3 w X Y Z wx) := Lib.hid fun wx h => by
            obtain ⟨⟨_, p1, p2⟩, ⟨_, q1, q2⟩, _⟩ := HC.out wx h
            exact ⟨p1, q1, p2, q2, h⟩
          go_region_held3 (fun wx => wx.cell? ⟨w.heap.size, 1, none⟩ = some (.int .i64 a.hi) ∧ wx.cell? ⟨w.heap.size + 1, 1, none⟩ = some (.int .i64 b.hi) ∧ wx.cell? ⟨w.heap.size, 2, none⟩ = some (.int .i64 a.st) ∧ wx.cell? ⟨w.heap.size + 1, 2, none⟩ = some (.int .i64 b.st) ∧ In3 w X Y Z wx)
            (first
              | exact HS.out _ hi2.drew
              | (go_split_ands; exact HS.out _ (by assumption))
              | exact HS.out _ hk)
            (first
              | (go_at_call 191; (with_reducible refine (HL.out _ (by go_split_ands; assumption)).mono ?_); rintro e wk ⟨rfl, hk⟩))
          all_goals
            go_split_ands
            have hi3 : In3 w X Y Z wk := by assumption
            obtain ⟨_, _, r0, r1, r2⟩ := HC.out _ hi3
            have hf0 := HFr.out wk 0 hi3
            have hf1 := HFr.out wk 1 hi3
            have hf2 := HFr.out wk 2 hi3
            have hbt := (firstC_some Hok.out.1 Hok.out.2 HFF.out).1
            unfold Both at hbt
            rw [Sp.has_iff, Sp.has_iff] at hbt
            have hxa : x ≤ a.hi := hbt.1.2.1
            have hxb : x ≤ b.hi := hbt.2.2.1
            have HVV : Hid (V = .tuple #[.agg #[.int .i64 x, .int .i64 (b.hi - (b.hi - x) % L), .int .i64 L], .bool true]) := Lib.hid (by
              rw [HOut.out x HFF.out]
              have e1 : mostC a b = b.hi := by unfold mostC; omega
              unfold Sp.val outS lastC
              rw [e1, HLL.out])
            have hL0 : ¬ L = 0 := by omega
            have hR0 := Int.emod_nonneg (b.hi - x) hL0
            have hR1 := Int.emod_lt_of_pos (b.hi - x) (show 0 < L by omega)
            have hR2 : (b.hi - x) % L ≤ b.hi - x := by
              have := Int.mul_ediv_add_emod (b.hi - x) L
              have := Int.mul_nonneg (show 0 ≤ L by omega) (Int.ediv_nonneg (show 0 ≤ b.hi - x by omega) (show 0 ≤ L by omega))
              omega
            have hmod : (b.hi - x).tmod L = (b.hi - x) % L := Int.tmod_eq_emod_of_nonneg (by omega)
            obtain ⟨R, hR⟩ : ∃ R, (b.hi - x) % L = R := ⟨_, rfl⟩
            rw [hR] at HVV hR0 hR1 hR2 hmod
            clear hR hbt
            go_wp2_with fail
            refine bodyPost_ret (v := .tuple #[.agg #[.int .i64 x, .int .i64 (b.hi - R), .int .i64 L], .bool true]) (by simp [results, Tryz.results166, go_sem, r0, r1, r2]) rfl ⟨by rw [HVV.out], ?_⟩
            exact ((hi3.out.setCell (by simp; omega) _).setCell (by simp; omega) _).setCell (by simp; omega) _
        | false =>
          have HFF : Hid (bothB a b (cand a b k) = false) := Lib.hid (by rw [Hx.out, HAB.out]; rfl)
          go_wp2_with (first
            | (go_at_call 190; (with_reducible refine cA.mono ?_); rintro e w1 ⟨rfl, hi1⟩; obtain ⟨⟨u0, u1, u2⟩, ⟨v0, v1, v2⟩, _⟩ := HC.out _ hi1)
            | (go_at_call 190; (with_reducible refine (CB.out w1 hi1).mono ?_); rintro e w2 ⟨rfl, hi2⟩; obtain ⟨⟨y0, y1, y2⟩, _⟩ := HC.out _ hi2))
          go_roundw
          case rel => exact ⟨k + 1, by go_num, by rw [Hn.out], by omega, fun j hj => by
            by_cases e : j = k
            · rw [e]; exact HFF.out
            · exact Hno.out j (by omega), hi2⟩
          case measure => simp [intOf]; omega
      | false =>
        have HFF : Hid (bothB a b (cand a b k) = false) := Lib.hid (by rw [Hx.out, HAB.out]; rfl)
        go_wp2_with (first
          | (go_at_call 190; (with_reducible refine cA.mono ?_); rintro e w1 ⟨rfl, hi1⟩; obtain ⟨⟨u0, u1, u2⟩, ⟨v0, v1, v2⟩, _⟩ := HC.out _ hi1))
        go_roundw
        case rel => exact ⟨k + 1, by go_num, by rw [Hn.out], by omega, fun j hj => by
          by_cases e : j = k
          · rw [e]; exact HFF.out
          · exact Hno.out j (by omega), hi1⟩
        case measure => simp [intOf]; omega
    · have HFF : Hid (firstC a b = none) := Lib.hid (HFN.out fun j hj => Hno.out j (by omega))
      have hf0 := HFr.out wr 0 hi
      have hf1 := HFr.out wr 1 hi
      have hf2 := HFr.out wr 2 hi
      have HVV : Hid (V = .tuple #[zSp, .bool false]) := Lib.hid (HNo.out HFF.out)
      go_wp2_with fail
      refine bodyPost_ret (v := .tuple #[.agg #[.int .i64 0, .int .i64 0, .int .i64 0], .bool false]) (by simp [results, Tryz.results166, go_sem, r0, r1, r2]) rfl ⟨by rw [HVV.out]; rfl, ?_⟩
      exact ((hi.out.setCell (by simp; omega) _).setCell (by simp; omega) _).setCell (by simp; omega) _

set_option maxRecDepth 100000 in
set_option maxHeartbeats 3200000 in
theorem common_lg (a b : Sp) (w : World) (ha : a.Ok) (hb : b.Ok) (hml : a.lo < b.lo) (hmn : ¬ b.hi < a.hi) :
    Calls Tryz.prog 166 #[a.val, b.val] w fun e w' => e = .returned (commonV a b) ∧ Below w.heap.size w w' := by
  have hna := sp_nice ha
  have hnb := sp_nice hb
  obtain ⟨X, hX⟩ : ∃ X : Obj, X = .cells #[.int .i64 a.lo, .int .i64 a.hi, .int .i64 a.st] 110 := ⟨_, rfl⟩
  obtain ⟨Y, hY⟩ : ∃ Y : Obj, Y = .cells #[.int .i64 b.lo, .int .i64 b.hi, .int .i64 b.st] 110 := ⟨_, rfl⟩
  obtain ⟨Z, hZ⟩ : ∃ Z : Obj, Z = .cells #[.int .i64 0, .int .i64 0, .int .i64 0] 110 := ⟨_, rfl⟩
  have HA := Lib.hid fun (wr : World) (n : Int) (hi : In3 w X Y Z wr) => calls_in3 hi (stepped_has a n wr hna)
  have HB := Lib.hid fun (wr : World) (n : Int) (hi : In3 w X Y Z wr) => calls_in3 hi (stepped_has b n wr hnb)
  have hLm := leastMultiple_nat a.st.toNat b.st.toNat
  have ea : ((a.st.toNat : Nat) : Int) = a.st := by have := ha.2.2.2.1; omega
  have eb : ((b.st.toNat : Nat) : Int) = b.st := by have := hb.2.2.2.1; omega
  rw [ea, eb] at hLm
  obtain ⟨L, hL⟩ : ∃ L, lcmI a.st b.st = L := ⟨_, rfl⟩
  have hL1 : 1 ≤ L := hL ▸ lcmI_pos ha.2.2.2.1 hb.2.2.2.1
  have hL2 : L ≤ 1000000 := hL ▸ lcmI_le' ha.2.2.2.1 hb.2.2.2.1 ha.2.2.2.2 hb.2.2.2.2
  rw [hL] at hLm
  have HL := Lib.hid fun (wr : World) (hi : In3 w X Y Z wr) => calls_in3 hi (hLm wr (by have := ha.2.2.2.1; omega) (by have := hb.2.2.2.1; omega) (by have := ha.2.2.2.2; omega) (by have := hb.2.2.2.2; omega))
  have Hok := Lib.hid (And.intro ha hb)
  have HLL : Hid (lcmC a b = L) := Lib.hid hL
  have HC := Lib.hid fun (wr : World) (h : In3 w X Y Z wr) => In3.cells (hX ▸ hY ▸ hZ ▸ h)
  have HF : In3 w X Y Z (((w.alloc (.cells #[.int .i64 a.lo, .int .i64 a.hi, .int .i64 a.st] 110)).alloc (.cells #[.int .i64 b.lo, .int .i64 b.hi, .int .i64 b.st] 110)).alloc (.cells #[.int .i64 0, .int .i64 0, .int .i64 0] 110)) := hX ▸ hY ▸ hZ ▸ In3.first w X Y Z
  have HFr := Lib.hid fun (wr : World) (o : Nat) (h : In3 w X Y Z wr) => In3.free hZ h o
  have HCB := Lib.hid fun k hk => cand_bound a b ha hb k hk
  have HCN := Lib.hid fun k => cand_next a b k
  have HFA : Hid (∀ k : Nat, (k : Int) < b.st → (∀ j, j < k → bothB a b (cand a b j) = false) → bothB a b (cand a b k) = true → firstC a b = some (cand a b k)) := Lib.hid fun k h1 h2 h3 => first_at h1 h2 h3
  have HFN : Hid ((∀ j : Nat, (j : Int) < b.st → bothB a b (cand a b j) = false) → firstC a b = none) := Lib.hid fun h => first_never h
  have HOut : Hid (∀ f, firstC a b = some f → commonV a b = .tuple #[(outS a b f).val, .bool true]) := Lib.hid fun f h => by unfold commonV; rw [h]
  have HNo : Hid (firstC a b = none → commonV a b = .tuple #[zSp, .bool false]) := Lib.hid fun h => by unfold commonV; rw [h]
  have hmax : max a.lo b.lo = b.lo := by omega
  have hst : start a b = a.lo + (b.lo - a.lo + a.st - 1) / a.st * a.st := by unfold start; rw [hmax]
  have HSt := Lib.hid hst
  obtain ⟨hs1, hs2, _⟩ := start_spec a b ha
  rw [hmax] at hs1 hs2
  have H0 : Hid (cand a b 0 = start a b) := Lib.hid (by unfold cand; simp)
  obtain ⟨a1, a2, a3, a4, a5⟩ := ha
  obtain ⟨b1, b2, b3, b4, b5⟩ := hb
  have hq0 : 0 ≤ (b.lo - a.lo + a.st - 1) / a.st := Int.ediv_nonneg (by omega) (by omega)
  have hq1 : (b.lo - a.lo + a.st - 1) / a.st ≤ 2000000000 := by
    have := Int.ediv_le_self a.st (show 0 ≤ b.lo - a.lo + a.st - 1 by omega)
    omega
  have w4 : (b.lo - a.lo + a.st - 1).tdiv a.st = (b.lo - a.lo + a.st - 1) / a.st := Int.tdiv_eq_ediv_of_nonneg (by omega)
  rw [hst] at hs1 hs2
  obtain ⟨Q, hQ⟩ : ∃ Q, (b.lo - a.lo + a.st - 1) / a.st = Q := ⟨_, rfl⟩
  rw [hQ] at w4 hq0 hq1 hs1 hs2 HSt
  have w1 : IntKind.i64.wrap (b.lo - a.lo) = b.lo - a.lo := IntWalk.i64_in _ (by omega)
  have w2 : IntKind.i64.wrap (b.lo - a.lo + a.st) = b.lo - a.lo + a.st := IntWalk.i64_in _ (by omega)
  have w3 : IntKind.i64.wrap (b.lo - a.lo + a.st - 1) = b.lo - a.lo + a.st - 1 := IntWalk.i64_in _ (by omega)
  have w5 : IntKind.i64.wrap Q = Q := IntWalk.i64_in _ (by omega)
  have w6 : IntKind.i64.wrap (Q * a.st) = Q * a.st := IntWalk.i64_in _ (by omega)
  have w7 : IntKind.i64.wrap (a.lo + Q * a.st) = a.lo + Q * a.st := IntWalk.i64_in _ (by omega)
  have w0 : ¬ a.st = 0 := by omega
  obtain ⟨V, hV⟩ : ∃ V, commonV a b = V := ⟨_, rfl⟩
  rw [hV] at HOut HNo ⊢
  clear hV hLm ea eb hX hY hZ hna hnb hL hmax hst hQ
  obtain ⟨⟨p0, p1, p2⟩, ⟨q0, q1, q2⟩, r0, r1, r2⟩ := HC.out _ HF
  unfold Sp.val at HA HB ⊢
  go_enter Tryz.func166, Tryz.ntmps166
  go_upto_region 2 with fail
  go_quiet (fail)
  have HF2 := HF.drewN nq
  generalize World.drewN _ nq = wz at HF2 ⊢
  clear HF p0 p1 p2 q0 q1 q2 r0 r1 r2 w1 w2 w3 w4 w5 w6 w7
  obtain ⟨⟨p0, p1, p2⟩, ⟨q0, q1, q2⟩, r0, r1, r2⟩ := HC.out _ HF2
  go_wp2_with fail
  clear p0 p1 p2 q0 q1 q2 r0 r1 r2
  go_loopw [7, 34] (fun n i wr => ∃ k : Nat, i = .int .i64 k ∧ n = .int .i64 (cand a b k) ∧ (k : Int) ≤ b.st ∧ (∀ j, j < k → bothB a b (cand a b j) = false) ∧ In3 w X Y Z wr) (fun _ i _ => 1000 - (intOf i).toNat)
  case atStart => exact ⟨0, rfl, by rw [H0.out, HSt.out], by simp; omega, fun _ h => absurd h (Nat.not_lt_zero _), HF2⟩
  case round =>
    obtain ⟨k, rfl, rfl, hk, hno, hi⟩ := hrel
    have Hno := Lib.hid hno
    clear hno HF2
    rename_i wr _
    obtain ⟨⟨p0, p1, p2⟩, ⟨q0, q1, q2⟩, r0, r1, r2⟩ := HC.out _ hi
    obtain ⟨x1, x2⟩ := HCB.out k (by omega)
    obtain ⟨x, hx⟩ : ∃ x, cand a b k = x := ⟨_, rfl⟩
    have Hx := Lib.hid hx
    have Hn : Hid (cand a b (k + 1) = x + a.st) := Lib.hid (by rw [HCN.out, hx])
    rw [hx] at x1 x2 ⊢
    clear hx
    by_cases hlt : (k : Int) < b.st
    · obtain ⟨A, hA⟩ : ∃ A, a.has x = A := ⟨_, rfl⟩
      obtain ⟨B, hB⟩ : ∃ B, b.has x = B := ⟨_, rfl⟩
      have cA := HA.out wr x hi
      have cB := fun (w2 : World) h => HB.out w2 x h
      rw [hA] at cA
      rw [hB] at cB
      have HAB : Hid (bothB a b x = (A && B)) := Lib.hid (by unfold bothB; rw [hA, hB])
      have CB := Lib.hid cB
      clear hA hB cB
      cases A with
      | true =>
        cases B with
        | true =>
          have HFF : Hid (firstC a b = some x) := Lib.hid (by have := HFA.out k hlt Hno.out (by rw [Hx.out, HAB.out]; rfl); rw [Hx.out] at this; exact this)
          go_upto_region 6 with (first
            | (go_at_call 190; (with_reducible refine cA.mono ?_); rintro e w1 ⟨rfl, hi1⟩; obtain ⟨⟨u0, u1, u2⟩, ⟨v0, v1, v2⟩, _⟩ := HC.out _ hi1)
            | (go_at_call 190; (with_reducible refine (CB.out w1 hi1).mono ?_); rintro e w2 ⟨rfl, hi2⟩))
          clear u0 u1 u2 v0 v1 v2
          have HS : Hid (∀ wx : World, In3 w X Y Z wx → wx.cell? ⟨w.heap.size, 1, none⟩ = some (.int .i64 a.hi) ∧ wx.cell? ⟨w.heap.size + 1, 1, none⟩ = some (.int .i64 b.hi) ∧ wx.cell? ⟨w.heap.size, 2, none⟩ = some (.int .i64 a.st) ∧ wx.cell? ⟨w.heap.size + 1, 2, none⟩ = some (.int .i64 b.st) ∧ In3 w X Y Z wx) := Lib.hid fun wx h => by
            obtain ⟨⟨_, p1, p2⟩, ⟨_, q1, q2⟩, _⟩ := HC.out wx h
            exact ⟨p1, q1, p2, q2, h⟩
          go_region_held3 (fun wx => wx.cell? ⟨w.heap.size, 1, none⟩ = some (.int .i64 a.hi) ∧ wx.cell? ⟨w.heap.size + 1, 1, none⟩ = some (.int .i64 b.hi) ∧ wx.cell? ⟨w.heap.size, 2, none⟩ = some (.int .i64 a.st) ∧ wx.cell? ⟨w.heap.size + 1, 2, none⟩ = some (.int .i64 b.st) ∧ In3 w X Y Z wx)
            (first
              | exact HS.out _ hi2.drew
              | (go_split_ands; exact HS.out _ (by assumption))
              | exact HS.out _ hk)
            (first
              | (go_at_call 191; (with_reducible refine (HL.out _ (by go_split_ands; assumption)).mono ?_); rintro e wk ⟨rfl, hk⟩))
          all_goals
            go_split_ands
            have hi3 : In3 w X Y Z wk := by assumption
            obtain ⟨_, _, r0, r1, r2⟩ := HC.out _ hi3
            have hf0 := HFr.out wk 0 hi3
            have hf1 := HFr.out wk 1 hi3
            have hf2 := HFr.out wk 2 hi3
            have hbt := (firstC_some Hok.out.1 Hok.out.2 HFF.out).1
            unfold Both at hbt
            rw [Sp.has_iff, Sp.has_iff] at hbt
            have hxa : x ≤ a.hi := hbt.1.2.1
            have hxb : x ≤ b.hi := hbt.2.2.1
            have HVV : Hid (V = .tuple #[.agg #[.int .i64 x, .int .i64 (a.hi - (a.hi - x) % L), .int .i64 L], .bool true]) := Lib.hid (by
              rw [HOut.out x HFF.out]
              have e1 : mostC a b = a.hi := by unfold mostC; omega
              unfold Sp.val outS lastC
              rw [e1, HLL.out])
            have hL0 : ¬ L = 0 := by omega
            have hR0 := Int.emod_nonneg (a.hi - x) hL0
            have hR1 := Int.emod_lt_of_pos (a.hi - x) (show 0 < L by omega)
            have hR2 : (a.hi - x) % L ≤ a.hi - x := by
              have := Int.mul_ediv_add_emod (a.hi - x) L
              have := Int.mul_nonneg (show 0 ≤ L by omega) (Int.ediv_nonneg (show 0 ≤ a.hi - x by omega) (show 0 ≤ L by omega))
              omega
            have hmod : (a.hi - x).tmod L = (a.hi - x) % L := Int.tmod_eq_emod_of_nonneg (by omega)
            obtain ⟨R, hR⟩ : ∃ R, (a.hi - x) % L = R := ⟨_, rfl⟩
            rw [hR] at HVV hR0 hR1 hR2 hmod
            clear hR hbt
            go_wp2_with fail
            refine bodyPost_ret (v := .tuple #[.agg #[.int .i64 x, .int .i64 (a.hi - R), .int .i64 L], .bool true]) (by simp [results, Tryz.results166, go_sem, r0, r1, r2]) rfl ⟨by rw [HVV.out], ?_⟩
            exact ((hi3.out.setCell (by simp; omega) _).setCell (by simp; omega) _).setCell (by simp; omega) _
        | false =>
          have HFF : Hid (bothB a b (cand a b k) = false) := Lib.hid (by rw [Hx.out, HAB.out]; rfl)
          go_wp2_with (first
            | (go_at_call 190; (with_reducible refine cA.mono ?_); rintro e w1 ⟨rfl, hi1⟩; obtain ⟨⟨u0, u1, u2⟩, ⟨v0, v1, v2⟩, _⟩ := HC.out _ hi1)
            | (go_at_call 190; (with_reducible refine (CB.out w1 hi1).mono ?_); rintro e w2 ⟨rfl, hi2⟩; obtain ⟨⟨y0, y1, y2⟩, _⟩ := HC.out _ hi2))
          go_roundw
          case rel => exact ⟨k + 1, by go_num, by rw [Hn.out], by omega, fun j hj => by
            by_cases e : j = k
            · rw [e]; exact HFF.out
            · exact Hno.out j (by omega), hi2⟩
          case measure => simp [intOf]; omega
      | false =>
        have HFF : Hid (bothB a b (cand a b k) = false) := Lib.hid (by rw [Hx.out, HAB.out]; rfl)
        go_wp2_with (first
          | (go_at_call 190; (with_reducible refine cA.mono ?_); rintro e w1 ⟨rfl, hi1⟩; obtain ⟨⟨u0, u1, u2⟩, ⟨v0, v1, v2⟩, _⟩ := HC.out _ hi1))
        go_roundw
        case rel => exact ⟨k + 1, by go_num, by rw [Hn.out], by omega, fun j hj => by
          by_cases e : j = k
          · rw [e]; exact HFF.out
          · exact Hno.out j (by omega), hi1⟩
        case measure => simp [intOf]; omega
    · have HFF : Hid (firstC a b = none) := Lib.hid (HFN.out fun j hj => Hno.out j (by omega))
      have hf0 := HFr.out wr 0 hi
      have hf1 := HFr.out wr 1 hi
      have hf2 := HFr.out wr 2 hi
      have HVV : Hid (V = .tuple #[zSp, .bool false]) := Lib.hid (HNo.out HFF.out)
      go_wp2_with fail
      refine bodyPost_ret (v := .tuple #[.agg #[.int .i64 0, .int .i64 0, .int .i64 0], .bool false]) (by simp [results, Tryz.results166, go_sem, r0, r1, r2]) rfl ⟨by rw [HVV.out]; rfl, ?_⟩
      exact ((hi.out.setCell (by simp; omega) _).setCell (by simp; omega) _).setCell (by simp; omega) _

set_option maxRecDepth 100000 in
set_option maxHeartbeats 3200000 in
theorem common_gl (a b : Sp) (w : World) (ha : a.Ok) (hb : b.Ok) (hml : ¬ a.lo < b.lo) (hmn : b.hi < a.hi) :
    Calls Tryz.prog 166 #[a.val, b.val] w fun e w' => e = .returned (commonV a b) ∧ Below w.heap.size w w' := by
  have hna := sp_nice ha
  have hnb := sp_nice hb
  obtain ⟨X, hX⟩ : ∃ X : Obj, X = .cells #[.int .i64 a.lo, .int .i64 a.hi, .int .i64 a.st] 110 := ⟨_, rfl⟩
  obtain ⟨Y, hY⟩ : ∃ Y : Obj, Y = .cells #[.int .i64 b.lo, .int .i64 b.hi, .int .i64 b.st] 110 := ⟨_, rfl⟩
  obtain ⟨Z, hZ⟩ : ∃ Z : Obj, Z = .cells #[.int .i64 0, .int .i64 0, .int .i64 0] 110 := ⟨_, rfl⟩
  have HA := Lib.hid fun (wr : World) (n : Int) (hi : In3 w X Y Z wr) => calls_in3 hi (stepped_has a n wr hna)
  have HB := Lib.hid fun (wr : World) (n : Int) (hi : In3 w X Y Z wr) => calls_in3 hi (stepped_has b n wr hnb)
  have hLm := leastMultiple_nat a.st.toNat b.st.toNat
  have ea : ((a.st.toNat : Nat) : Int) = a.st := by have := ha.2.2.2.1; omega
  have eb : ((b.st.toNat : Nat) : Int) = b.st := by have := hb.2.2.2.1; omega
  rw [ea, eb] at hLm
  obtain ⟨L, hL⟩ : ∃ L, lcmI a.st b.st = L := ⟨_, rfl⟩
  have hL1 : 1 ≤ L := hL ▸ lcmI_pos ha.2.2.2.1 hb.2.2.2.1
  have hL2 : L ≤ 1000000 := hL ▸ lcmI_le' ha.2.2.2.1 hb.2.2.2.1 ha.2.2.2.2 hb.2.2.2.2
  rw [hL] at hLm
  have HL := Lib.hid fun (wr : World) (hi : In3 w X Y Z wr) => calls_in3 hi (hLm wr (by have := ha.2.2.2.1; omega) (by have := hb.2.2.2.1; omega) (by have := ha.2.2.2.2; omega) (by have := hb.2.2.2.2; omega))
  have Hok := Lib.hid (And.intro ha hb)
  have HLL : Hid (lcmC a b = L) := Lib.hid hL
  have HC := Lib.hid fun (wr : World) (h : In3 w X Y Z wr) => In3.cells (hX ▸ hY ▸ hZ ▸ h)
  have HF : In3 w X Y Z (((w.alloc (.cells #[.int .i64 a.lo, .int .i64 a.hi, .int .i64 a.st] 110)).alloc (.cells #[.int .i64 b.lo, .int .i64 b.hi, .int .i64 b.st] 110)).alloc (.cells #[.int .i64 0, .int .i64 0, .int .i64 0] 110)) := hX ▸ hY ▸ hZ ▸ In3.first w X Y Z
  have HFr := Lib.hid fun (wr : World) (o : Nat) (h : In3 w X Y Z wr) => In3.free hZ h o
  have HCB := Lib.hid fun k hk => cand_bound a b ha hb k hk
  have HCN := Lib.hid fun k => cand_next a b k
  have HFA : Hid (∀ k : Nat, (k : Int) < b.st → (∀ j, j < k → bothB a b (cand a b j) = false) → bothB a b (cand a b k) = true → firstC a b = some (cand a b k)) := Lib.hid fun k h1 h2 h3 => first_at h1 h2 h3
  have HFN : Hid ((∀ j : Nat, (j : Int) < b.st → bothB a b (cand a b j) = false) → firstC a b = none) := Lib.hid fun h => first_never h
  have HOut : Hid (∀ f, firstC a b = some f → commonV a b = .tuple #[(outS a b f).val, .bool true]) := Lib.hid fun f h => by unfold commonV; rw [h]
  have HNo : Hid (firstC a b = none → commonV a b = .tuple #[zSp, .bool false]) := Lib.hid fun h => by unfold commonV; rw [h]
  have hmax : max a.lo b.lo = a.lo := by omega
  have hst : start a b = a.lo + (a.lo - a.lo + a.st - 1) / a.st * a.st := by unfold start; rw [hmax]
  have HSt := Lib.hid hst
  obtain ⟨hs1, hs2, _⟩ := start_spec a b ha
  rw [hmax] at hs1 hs2
  have H0 : Hid (cand a b 0 = start a b) := Lib.hid (by unfold cand; simp)
  obtain ⟨a1, a2, a3, a4, a5⟩ := ha
  obtain ⟨b1, b2, b3, b4, b5⟩ := hb
  have hq0 : 0 ≤ (a.lo - a.lo + a.st - 1) / a.st := Int.ediv_nonneg (by omega) (by omega)
  have hq1 : (a.lo - a.lo + a.st - 1) / a.st ≤ 2000000000 := by
    have := Int.ediv_le_self a.st (show 0 ≤ a.lo - a.lo + a.st - 1 by omega)
    omega
  have w4 : (a.lo - a.lo + a.st - 1).tdiv a.st = (a.lo - a.lo + a.st - 1) / a.st := Int.tdiv_eq_ediv_of_nonneg (by omega)
  rw [hst] at hs1 hs2
  obtain ⟨Q, hQ⟩ : ∃ Q, (a.lo - a.lo + a.st - 1) / a.st = Q := ⟨_, rfl⟩
  rw [hQ] at w4 hq0 hq1 hs1 hs2 HSt
  have w1 : IntKind.i64.wrap (a.lo - a.lo) = a.lo - a.lo := IntWalk.i64_in _ (by omega)
  have w2 : IntKind.i64.wrap (a.lo - a.lo + a.st) = a.lo - a.lo + a.st := IntWalk.i64_in _ (by omega)
  have w3 : IntKind.i64.wrap (a.lo - a.lo + a.st - 1) = a.lo - a.lo + a.st - 1 := IntWalk.i64_in _ (by omega)
  have w5 : IntKind.i64.wrap Q = Q := IntWalk.i64_in _ (by omega)
  have w6 : IntKind.i64.wrap (Q * a.st) = Q * a.st := IntWalk.i64_in _ (by omega)
  have w7 : IntKind.i64.wrap (a.lo + Q * a.st) = a.lo + Q * a.st := IntWalk.i64_in _ (by omega)
  have w0 : ¬ a.st = 0 := by omega
  have g2 : IntKind.i64.wrap (a.st - 1) = a.st - 1 := IntWalk.i64_in _ (by omega)
  have g1 : IntKind.i64.wrap a.st = a.st := IntWalk.i64_in _ (by omega)
  have g3 : (a.st - 1) / a.st = 0 := Int.ediv_eq_zero_of_lt (by omega) (by omega)
  have g4 : (a.st - 1).tdiv a.st = 0 := by rw [Int.tdiv_eq_ediv_of_nonneg (by omega)]; exact g3
  have g5 : IntKind.i64.wrap a.lo = a.lo := IntWalk.i64_in _ (by omega)
  have HQ0 : Hid (Q = 0) := Lib.hid (by rw [← hQ, show a.lo - a.lo + a.st - 1 = a.st - 1 by omega]; exact g3)
  obtain ⟨V, hV⟩ : ∃ V, commonV a b = V := ⟨_, rfl⟩
  rw [hV] at HOut HNo ⊢
  clear hV hLm ea eb hX hY hZ hna hnb hL hmax hst hQ
  obtain ⟨⟨p0, p1, p2⟩, ⟨q0, q1, q2⟩, r0, r1, r2⟩ := HC.out _ HF
  unfold Sp.val at HA HB ⊢
  go_enter Tryz.func166, Tryz.ntmps166
  go_upto_region 2 with fail
  go_quiet (fail)
  have HF2 := HF.drewN nq
  generalize World.drewN _ nq = wz at HF2 ⊢
  clear HF p0 p1 p2 q0 q1 q2 r0 r1 r2 w1 w2 w3 w4 w5 w6 w7 g1 g2 g3 g4 g5
  obtain ⟨⟨p0, p1, p2⟩, ⟨q0, q1, q2⟩, r0, r1, r2⟩ := HC.out _ HF2
  go_wp2_with fail
  clear p0 p1 p2 q0 q1 q2 r0 r1 r2
  go_loopw [7, 34] (fun n i wr => ∃ k : Nat, i = .int .i64 k ∧ n = .int .i64 (cand a b k) ∧ (k : Int) ≤ b.st ∧ (∀ j, j < k → bothB a b (cand a b j) = false) ∧ In3 w X Y Z wr) (fun _ i _ => 1000 - (intOf i).toNat)
  case atStart => exact ⟨0, rfl, by rw [H0.out, HSt.out, HQ0.out]; simp, by simp; omega, fun _ h => absurd h (Nat.not_lt_zero _), HF2⟩
  case round =>
    obtain ⟨k, rfl, rfl, hk, hno, hi⟩ := hrel
    have Hno := Lib.hid hno
    clear hno HF2
    rename_i wr _
    obtain ⟨⟨p0, p1, p2⟩, ⟨q0, q1, q2⟩, r0, r1, r2⟩ := HC.out _ hi
    obtain ⟨x1, x2⟩ := HCB.out k (by omega)
    obtain ⟨x, hx⟩ : ∃ x, cand a b k = x := ⟨_, rfl⟩
    have Hx := Lib.hid hx
    have Hn : Hid (cand a b (k + 1) = x + a.st) := Lib.hid (by rw [HCN.out, hx])
    rw [hx] at x1 x2 ⊢
    clear hx
    by_cases hlt : (k : Int) < b.st
    · obtain ⟨A, hA⟩ : ∃ A, a.has x = A := ⟨_, rfl⟩
      obtain ⟨B, hB⟩ : ∃ B, b.has x = B := ⟨_, rfl⟩
      have cA := HA.out wr x hi
      have cB := fun (w2 : World) h => HB.out w2 x h
      rw [hA] at cA
      rw [hB] at cB
      have HAB : Hid (bothB a b x = (A && B)) := Lib.hid (by unfold bothB; rw [hA, hB])
      have CB := Lib.hid cB
      clear hA hB cB
      cases A with
      | true =>
        cases B with
        | true =>
          have HFF : Hid (firstC a b = some x) := Lib.hid (by have := HFA.out k hlt Hno.out (by rw [Hx.out, HAB.out]; rfl); rw [Hx.out] at this; exact this)
          go_upto_region 6 with (first
            | (go_at_call 190; (with_reducible refine cA.mono ?_); rintro e w1 ⟨rfl, hi1⟩; obtain ⟨⟨u0, u1, u2⟩, ⟨v0, v1, v2⟩, _⟩ := HC.out _ hi1)
            | (go_at_call 190; (with_reducible refine (CB.out w1 hi1).mono ?_); rintro e w2 ⟨rfl, hi2⟩))
          clear u0 u1 u2 v0 v1 v2
          have HS : Hid (∀ wx : World, In3 w X Y Z wx → wx.cell? ⟨w.heap.size, 1, none⟩ = some (.int .i64 a.hi) ∧ wx.cell? ⟨w.heap.size + 1, 1, none⟩ = some (.int .i64 b.hi) ∧ wx.cell? ⟨w.heap.size, 2, none⟩ = some (.int .i64 a.st) ∧ wx.cell? ⟨w.heap.size + 1, 2, none⟩ = some (.int .i64 b.st) ∧ In3 w X Y Z wx) := Lib.hid fun wx h => by
            obtain ⟨⟨_, p1, p2⟩, ⟨_, q1, q2⟩, _⟩ := HC.out wx h
            exact ⟨p1, q1, p2, q2, h⟩
          go_region_held3 (fun wx => wx.cell? ⟨w.heap.size, 1, none⟩ = some (.int .i64 a.hi) ∧ wx.cell? ⟨w.heap.size + 1, 1, none⟩ = some (.int .i64 b.hi) ∧ wx.cell? ⟨w.heap.size, 2, none⟩ = some (.int .i64 a.st) ∧ wx.cell? ⟨w.heap.size + 1, 2, none⟩ = some (.int .i64 b.st) ∧ In3 w X Y Z wx)
            (first
              | exact HS.out _ hi2.drew
              | (go_split_ands; exact HS.out _ (by assumption))
              | exact HS.out _ hk)
            (first
              | (go_at_call 191; (with_reducible refine (HL.out _ (by go_split_ands; assumption)).mono ?_); rintro e wk ⟨rfl, hk⟩))
          all_goals
            go_split_ands
            have hi3 : In3 w X Y Z wk := by assumption
            obtain ⟨_, _, r0, r1, r2⟩ := HC.out _ hi3
            have hf0 := HFr.out wk 0 hi3
            have hf1 := HFr.out wk 1 hi3
            have hf2 := HFr.out wk 2 hi3
            have hbt := (firstC_some Hok.out.1 Hok.out.2 HFF.out).1
            unfold Both at hbt
            rw [Sp.has_iff, Sp.has_iff] at hbt
            have hxa : x ≤ a.hi := hbt.1.2.1
            have hxb : x ≤ b.hi := hbt.2.2.1
            have HVV : Hid (V = .tuple #[.agg #[.int .i64 x, .int .i64 (b.hi - (b.hi - x) % L), .int .i64 L], .bool true]) := Lib.hid (by
              rw [HOut.out x HFF.out]
              have e1 : mostC a b = b.hi := by unfold mostC; omega
              unfold Sp.val outS lastC
              rw [e1, HLL.out])
            have hL0 : ¬ L = 0 := by omega
            have hR0 := Int.emod_nonneg (b.hi - x) hL0
            have hR1 := Int.emod_lt_of_pos (b.hi - x) (show 0 < L by omega)
            have hR2 : (b.hi - x) % L ≤ b.hi - x := by
              have := Int.mul_ediv_add_emod (b.hi - x) L
              have := Int.mul_nonneg (show 0 ≤ L by omega) (Int.ediv_nonneg (show 0 ≤ b.hi - x by omega) (show 0 ≤ L by omega))
              omega
            have hmod : (b.hi - x).tmod L = (b.hi - x) % L := Int.tmod_eq_emod_of_nonneg (by omega)
            obtain ⟨R, hR⟩ : ∃ R, (b.hi - x) % L = R := ⟨_, rfl⟩
            rw [hR] at HVV hR0 hR1 hR2 hmod
            clear hR hbt
            go_wp2_with fail
            refine bodyPost_ret (v := .tuple #[.agg #[.int .i64 x, .int .i64 (b.hi - R), .int .i64 L], .bool true]) (by simp [results, Tryz.results166, go_sem, r0, r1, r2]) rfl ⟨by rw [HVV.out], ?_⟩
            exact ((hi3.out.setCell (by simp; omega) _).setCell (by simp; omega) _).setCell (by simp; omega) _
        | false =>
          have HFF : Hid (bothB a b (cand a b k) = false) := Lib.hid (by rw [Hx.out, HAB.out]; rfl)
          go_wp2_with (first
            | (go_at_call 190; (with_reducible refine cA.mono ?_); rintro e w1 ⟨rfl, hi1⟩; obtain ⟨⟨u0, u1, u2⟩, ⟨v0, v1, v2⟩, _⟩ := HC.out _ hi1)
            | (go_at_call 190; (with_reducible refine (CB.out w1 hi1).mono ?_); rintro e w2 ⟨rfl, hi2⟩; obtain ⟨⟨y0, y1, y2⟩, _⟩ := HC.out _ hi2))
          go_roundw
          case rel => exact ⟨k + 1, by go_num, by rw [Hn.out], by omega, fun j hj => by
            by_cases e : j = k
            · rw [e]; exact HFF.out
            · exact Hno.out j (by omega), hi2⟩
          case measure => simp [intOf]; omega
      | false =>
        have HFF : Hid (bothB a b (cand a b k) = false) := Lib.hid (by rw [Hx.out, HAB.out]; rfl)
        go_wp2_with (first
          | (go_at_call 190; (with_reducible refine cA.mono ?_); rintro e w1 ⟨rfl, hi1⟩; obtain ⟨⟨u0, u1, u2⟩, ⟨v0, v1, v2⟩, _⟩ := HC.out _ hi1))
        go_roundw
        case rel => exact ⟨k + 1, by go_num, by rw [Hn.out], by omega, fun j hj => by
          by_cases e : j = k
          · rw [e]; exact HFF.out
          · exact Hno.out j (by omega), hi1⟩
        case measure => simp [intOf]; omega
    · have HFF : Hid (firstC a b = none) := Lib.hid (HFN.out fun j hj => Hno.out j (by omega))
      have hf0 := HFr.out wr 0 hi
      have hf1 := HFr.out wr 1 hi
      have hf2 := HFr.out wr 2 hi
      have HVV : Hid (V = .tuple #[zSp, .bool false]) := Lib.hid (HNo.out HFF.out)
      go_wp2_with fail
      refine bodyPost_ret (v := .tuple #[.agg #[.int .i64 0, .int .i64 0, .int .i64 0], .bool false]) (by simp [results, Tryz.results166, go_sem, r0, r1, r2]) rfl ⟨by rw [HVV.out]; rfl, ?_⟩
      exact ((hi.out.setCell (by simp; omega) _).setCell (by simp; omega) _).setCell (by simp; omega) _

set_option maxRecDepth 100000 in
set_option maxHeartbeats 3200000 in
theorem common_gg (a b : Sp) (w : World) (ha : a.Ok) (hb : b.Ok) (hml : ¬ a.lo < b.lo) (hmn : ¬ b.hi < a.hi) :
    Calls Tryz.prog 166 #[a.val, b.val] w fun e w' => e = .returned (commonV a b) ∧ Below w.heap.size w w' := by
  have hna := sp_nice ha
  have hnb := sp_nice hb
  obtain ⟨X, hX⟩ : ∃ X : Obj, X = .cells #[.int .i64 a.lo, .int .i64 a.hi, .int .i64 a.st] 110 := ⟨_, rfl⟩
  obtain ⟨Y, hY⟩ : ∃ Y : Obj, Y = .cells #[.int .i64 b.lo, .int .i64 b.hi, .int .i64 b.st] 110 := ⟨_, rfl⟩
  obtain ⟨Z, hZ⟩ : ∃ Z : Obj, Z = .cells #[.int .i64 0, .int .i64 0, .int .i64 0] 110 := ⟨_, rfl⟩
  have HA := Lib.hid fun (wr : World) (n : Int) (hi : In3 w X Y Z wr) => calls_in3 hi (stepped_has a n wr hna)
  have HB := Lib.hid fun (wr : World) (n : Int) (hi : In3 w X Y Z wr) => calls_in3 hi (stepped_has b n wr hnb)
  have hLm := leastMultiple_nat a.st.toNat b.st.toNat
  have ea : ((a.st.toNat : Nat) : Int) = a.st := by have := ha.2.2.2.1; omega
  have eb : ((b.st.toNat : Nat) : Int) = b.st := by have := hb.2.2.2.1; omega
  rw [ea, eb] at hLm
  obtain ⟨L, hL⟩ : ∃ L, lcmI a.st b.st = L := ⟨_, rfl⟩
  have hL1 : 1 ≤ L := hL ▸ lcmI_pos ha.2.2.2.1 hb.2.2.2.1
  have hL2 : L ≤ 1000000 := hL ▸ lcmI_le' ha.2.2.2.1 hb.2.2.2.1 ha.2.2.2.2 hb.2.2.2.2
  rw [hL] at hLm
  have HL := Lib.hid fun (wr : World) (hi : In3 w X Y Z wr) => calls_in3 hi (hLm wr (by have := ha.2.2.2.1; omega) (by have := hb.2.2.2.1; omega) (by have := ha.2.2.2.2; omega) (by have := hb.2.2.2.2; omega))
  have Hok := Lib.hid (And.intro ha hb)
  have HLL : Hid (lcmC a b = L) := Lib.hid hL
  have HC := Lib.hid fun (wr : World) (h : In3 w X Y Z wr) => In3.cells (hX ▸ hY ▸ hZ ▸ h)
  have HF : In3 w X Y Z (((w.alloc (.cells #[.int .i64 a.lo, .int .i64 a.hi, .int .i64 a.st] 110)).alloc (.cells #[.int .i64 b.lo, .int .i64 b.hi, .int .i64 b.st] 110)).alloc (.cells #[.int .i64 0, .int .i64 0, .int .i64 0] 110)) := hX ▸ hY ▸ hZ ▸ In3.first w X Y Z
  have HFr := Lib.hid fun (wr : World) (o : Nat) (h : In3 w X Y Z wr) => In3.free hZ h o
  have HCB := Lib.hid fun k hk => cand_bound a b ha hb k hk
  have HCN := Lib.hid fun k => cand_next a b k
  have HFA : Hid (∀ k : Nat, (k : Int) < b.st → (∀ j, j < k → bothB a b (cand a b j) = false) → bothB a b (cand a b k) = true → firstC a b = some (cand a b k)) := Lib.hid fun k h1 h2 h3 => first_at h1 h2 h3
  have HFN : Hid ((∀ j : Nat, (j : Int) < b.st → bothB a b (cand a b j) = false) → firstC a b = none) := Lib.hid fun h => first_never h
  have HOut : Hid (∀ f, firstC a b = some f → commonV a b = .tuple #[(outS a b f).val, .bool true]) := Lib.hid fun f h => by unfold commonV; rw [h]
  have HNo : Hid (firstC a b = none → commonV a b = .tuple #[zSp, .bool false]) := Lib.hid fun h => by unfold commonV; rw [h]
  have hmax : max a.lo b.lo = a.lo := by omega
  have hst : start a b = a.lo + (a.lo - a.lo + a.st - 1) / a.st * a.st := by unfold start; rw [hmax]
  have HSt := Lib.hid hst
  obtain ⟨hs1, hs2, _⟩ := start_spec a b ha
  rw [hmax] at hs1 hs2
  have H0 : Hid (cand a b 0 = start a b) := Lib.hid (by unfold cand; simp)
  obtain ⟨a1, a2, a3, a4, a5⟩ := ha
  obtain ⟨b1, b2, b3, b4, b5⟩ := hb
  have hq0 : 0 ≤ (a.lo - a.lo + a.st - 1) / a.st := Int.ediv_nonneg (by omega) (by omega)
  have hq1 : (a.lo - a.lo + a.st - 1) / a.st ≤ 2000000000 := by
    have := Int.ediv_le_self a.st (show 0 ≤ a.lo - a.lo + a.st - 1 by omega)
    omega
  have w4 : (a.lo - a.lo + a.st - 1).tdiv a.st = (a.lo - a.lo + a.st - 1) / a.st := Int.tdiv_eq_ediv_of_nonneg (by omega)
  rw [hst] at hs1 hs2
  obtain ⟨Q, hQ⟩ : ∃ Q, (a.lo - a.lo + a.st - 1) / a.st = Q := ⟨_, rfl⟩
  rw [hQ] at w4 hq0 hq1 hs1 hs2 HSt
  have w1 : IntKind.i64.wrap (a.lo - a.lo) = a.lo - a.lo := IntWalk.i64_in _ (by omega)
  have w2 : IntKind.i64.wrap (a.lo - a.lo + a.st) = a.lo - a.lo + a.st := IntWalk.i64_in _ (by omega)
  have w3 : IntKind.i64.wrap (a.lo - a.lo + a.st - 1) = a.lo - a.lo + a.st - 1 := IntWalk.i64_in _ (by omega)
  have w5 : IntKind.i64.wrap Q = Q := IntWalk.i64_in _ (by omega)
  have w6 : IntKind.i64.wrap (Q * a.st) = Q * a.st := IntWalk.i64_in _ (by omega)
  have w7 : IntKind.i64.wrap (a.lo + Q * a.st) = a.lo + Q * a.st := IntWalk.i64_in _ (by omega)
  have w0 : ¬ a.st = 0 := by omega
  have g2 : IntKind.i64.wrap (a.st - 1) = a.st - 1 := IntWalk.i64_in _ (by omega)
  have g1 : IntKind.i64.wrap a.st = a.st := IntWalk.i64_in _ (by omega)
  have g3 : (a.st - 1) / a.st = 0 := Int.ediv_eq_zero_of_lt (by omega) (by omega)
  have g4 : (a.st - 1).tdiv a.st = 0 := by rw [Int.tdiv_eq_ediv_of_nonneg (by omega)]; exact g3
  have g5 : IntKind.i64.wrap a.lo = a.lo := IntWalk.i64_in _ (by omega)
  have HQ0 : Hid (Q = 0) := Lib.hid (by rw [← hQ, show a.lo - a.lo + a.st - 1 = a.st - 1 by omega]; exact g3)
  obtain ⟨V, hV⟩ : ∃ V, commonV a b = V := ⟨_, rfl⟩
  rw [hV] at HOut HNo ⊢
  clear hV hLm ea eb hX hY hZ hna hnb hL hmax hst hQ
  obtain ⟨⟨p0, p1, p2⟩, ⟨q0, q1, q2⟩, r0, r1, r2⟩ := HC.out _ HF
  unfold Sp.val at HA HB ⊢
  go_enter Tryz.func166, Tryz.ntmps166
  go_upto_region 2 with fail
  go_quiet (fail)
  have HF2 := HF.drewN nq
  generalize World.drewN _ nq = wz at HF2 ⊢
  clear HF p0 p1 p2 q0 q1 q2 r0 r1 r2 w1 w2 w3 w4 w5 w6 w7 g1 g2 g3 g4 g5
  obtain ⟨⟨p0, p1, p2⟩, ⟨q0, q1, q2⟩, r0, r1, r2⟩ := HC.out _ HF2
  go_wp2_with fail
  clear p0 p1 p2 q0 q1 q2 r0 r1 r2
  go_loopw [7, 34] (fun n i wr => ∃ k : Nat, i = .int .i64 k ∧ n = .int .i64 (cand a b k) ∧ (k : Int) ≤ b.st ∧ (∀ j, j < k → bothB a b (cand a b j) = false) ∧ In3 w X Y Z wr) (fun _ i _ => 1000 - (intOf i).toNat)
  case atStart => exact ⟨0, rfl, by rw [H0.out, HSt.out, HQ0.out]; simp, by simp; omega, fun _ h => absurd h (Nat.not_lt_zero _), HF2⟩
  case round =>
    obtain ⟨k, rfl, rfl, hk, hno, hi⟩ := hrel
    have Hno := Lib.hid hno
    clear hno HF2
    rename_i wr _
    obtain ⟨⟨p0, p1, p2⟩, ⟨q0, q1, q2⟩, r0, r1, r2⟩ := HC.out _ hi
    obtain ⟨x1, x2⟩ := HCB.out k (by omega)
    obtain ⟨x, hx⟩ : ∃ x, cand a b k = x := ⟨_, rfl⟩
    have Hx := Lib.hid hx
    have Hn : Hid (cand a b (k + 1) = x + a.st) := Lib.hid (by rw [HCN.out, hx])
    rw [hx] at x1 x2 ⊢
    clear hx
    by_cases hlt : (k : Int) < b.st
    · obtain ⟨A, hA⟩ : ∃ A, a.has x = A := ⟨_, rfl⟩
      obtain ⟨B, hB⟩ : ∃ B, b.has x = B := ⟨_, rfl⟩
      have cA := HA.out wr x hi
      have cB := fun (w2 : World) h => HB.out w2 x h
      rw [hA] at cA
      rw [hB] at cB
      have HAB : Hid (bothB a b x = (A && B)) := Lib.hid (by unfold bothB; rw [hA, hB])
      have CB := Lib.hid cB
      clear hA hB cB
      cases A with
      | true =>
        cases B with
        | true =>
          have HFF : Hid (firstC a b = some x) := Lib.hid (by have := HFA.out k hlt Hno.out (by rw [Hx.out, HAB.out]; rfl); rw [Hx.out] at this; exact this)
          go_upto_region 6 with (first
            | (go_at_call 190; (with_reducible refine cA.mono ?_); rintro e w1 ⟨rfl, hi1⟩; obtain ⟨⟨u0, u1, u2⟩, ⟨v0, v1, v2⟩, _⟩ := HC.out _ hi1)
            | (go_at_call 190; (with_reducible refine (CB.out w1 hi1).mono ?_); rintro e w2 ⟨rfl, hi2⟩))
          clear u0 u1 u2 v0 v1 v2
          have HS : Hid (∀ wx : World, In3 w X Y Z wx → wx.cell? ⟨w.heap.size, 1, none⟩ = some (.int .i64 a.hi) ∧ wx.cell? ⟨w.heap.size + 1, 1, none⟩ = some (.int .i64 b.hi) ∧ wx.cell? ⟨w.heap.size, 2, none⟩ = some (.int .i64 a.st) ∧ wx.cell? ⟨w.heap.size + 1, 2, none⟩ = some (.int .i64 b.st) ∧ In3 w X Y Z wx) := Lib.hid fun wx h => by
            obtain ⟨⟨_, p1, p2⟩, ⟨_, q1, q2⟩, _⟩ := HC.out wx h
            exact ⟨p1, q1, p2, q2, h⟩
          go_region_held3 (fun wx => wx.cell? ⟨w.heap.size, 1, none⟩ = some (.int .i64 a.hi) ∧ wx.cell? ⟨w.heap.size + 1, 1, none⟩ = some (.int .i64 b.hi) ∧ wx.cell? ⟨w.heap.size, 2, none⟩ = some (.int .i64 a.st) ∧ wx.cell? ⟨w.heap.size + 1, 2, none⟩ = some (.int .i64 b.st) ∧ In3 w X Y Z wx)
            (first
              | exact HS.out _ hi2.drew
              | (go_split_ands; exact HS.out _ (by assumption))
              | exact HS.out _ hk)
            (first
              | (go_at_call 191; (with_reducible refine (HL.out _ (by go_split_ands; assumption)).mono ?_); rintro e wk ⟨rfl, hk⟩))
          all_goals
            go_split_ands
            have hi3 : In3 w X Y Z wk := by assumption
            obtain ⟨_, _, r0, r1, r2⟩ := HC.out _ hi3
            have hf0 := HFr.out wk 0 hi3
            have hf1 := HFr.out wk 1 hi3
            have hf2 := HFr.out wk 2 hi3
            have hbt := (firstC_some Hok.out.1 Hok.out.2 HFF.out).1
            unfold Both at hbt
            rw [Sp.has_iff, Sp.has_iff] at hbt
            have hxa : x ≤ a.hi := hbt.1.2.1
            have hxb : x ≤ b.hi := hbt.2.2.1
            have HVV : Hid (V = .tuple #[.agg #[.int .i64 x, .int .i64 (a.hi - (a.hi - x) % L), .int .i64 L], .bool true]) := Lib.hid (by
              rw [HOut.out x HFF.out]
              have e1 : mostC a b = a.hi := by unfold mostC; omega
              unfold Sp.val outS lastC
              rw [e1, HLL.out])
            have hL0 : ¬ L = 0 := by omega
            have hR0 := Int.emod_nonneg (a.hi - x) hL0
            have hR1 := Int.emod_lt_of_pos (a.hi - x) (show 0 < L by omega)
            have hR2 : (a.hi - x) % L ≤ a.hi - x := by
              have := Int.mul_ediv_add_emod (a.hi - x) L
              have := Int.mul_nonneg (show 0 ≤ L by omega) (Int.ediv_nonneg (show 0 ≤ a.hi - x by omega) (show 0 ≤ L by omega))
              omega
            have hmod : (a.hi - x).tmod L = (a.hi - x) % L := Int.tmod_eq_emod_of_nonneg (by omega)
            obtain ⟨R, hR⟩ : ∃ R, (a.hi - x) % L = R := ⟨_, rfl⟩
            rw [hR] at HVV hR0 hR1 hR2 hmod
            clear hR hbt
            go_wp2_with fail
            refine bodyPost_ret (v := .tuple #[.agg #[.int .i64 x, .int .i64 (a.hi - R), .int .i64 L], .bool true]) (by simp [results, Tryz.results166, go_sem, r0, r1, r2]) rfl ⟨by rw [HVV.out], ?_⟩
            exact ((hi3.out.setCell (by simp; omega) _).setCell (by simp; omega) _).setCell (by simp; omega) _
        | false =>
          have HFF : Hid (bothB a b (cand a b k) = false) := Lib.hid (by rw [Hx.out, HAB.out]; rfl)
          go_wp2_with (first
            | (go_at_call 190; (with_reducible refine cA.mono ?_); rintro e w1 ⟨rfl, hi1⟩; obtain ⟨⟨u0, u1, u2⟩, ⟨v0, v1, v2⟩, _⟩ := HC.out _ hi1)
            | (go_at_call 190; (with_reducible refine (CB.out w1 hi1).mono ?_); rintro e w2 ⟨rfl, hi2⟩; obtain ⟨⟨y0, y1, y2⟩, _⟩ := HC.out _ hi2))
          go_roundw
          case rel => exact ⟨k + 1, by go_num, by rw [Hn.out], by omega, fun j hj => by
            by_cases e : j = k
            · rw [e]; exact HFF.out
            · exact Hno.out j (by omega), hi2⟩
          case measure => simp [intOf]; omega
      | false =>
        have HFF : Hid (bothB a b (cand a b k) = false) := Lib.hid (by rw [Hx.out, HAB.out]; rfl)
        go_wp2_with (first
          | (go_at_call 190; (with_reducible refine cA.mono ?_); rintro e w1 ⟨rfl, hi1⟩; obtain ⟨⟨u0, u1, u2⟩, ⟨v0, v1, v2⟩, _⟩ := HC.out _ hi1))
        go_roundw
        case rel => exact ⟨k + 1, by go_num, by rw [Hn.out], by omega, fun j hj => by
          by_cases e : j = k
          · rw [e]; exact HFF.out
          · exact Hno.out j (by omega), hi1⟩
        case measure => simp [intOf]; omega
    · have HFF : Hid (firstC a b = none) := Lib.hid (HFN.out fun j hj => Hno.out j (by omega))
      have hf0 := HFr.out wr 0 hi
      have hf1 := HFr.out wr 1 hi
      have hf2 := HFr.out wr 2 hi
      have HVV : Hid (V = .tuple #[zSp, .bool false]) := Lib.hid (HNo.out HFF.out)
      go_wp2_with fail
      refine bodyPost_ret (v := .tuple #[.agg #[.int .i64 0, .int .i64 0, .int .i64 0], .bool false]) (by simp [results, Tryz.results166, go_sem, r0, r1, r2]) rfl ⟨by rw [HVV.out]; rfl, ?_⟩
      exact ((hi.out.setCell (by simp; omega) _).setCell (by simp; omega) _).setCell (by simp; omega) _

theorem common_any (a b : Sp) (w : World) (ha : a.Ok) (hb : b.Ok) :
    Calls Tryz.prog 166 #[a.val, b.val] w fun e w' => e = .returned (commonV a b) ∧ Below w.heap.size w w' := by
  by_cases h1 : a.lo < b.lo
  · by_cases h2 : b.hi < a.hi
    · exact common_ll a b w ha hb h1 h2
    · exact common_lg a b w ha hb h1 h2
  · by_cases h2 : b.hi < a.hi
    · exact common_gl a b w ha hb h1 h2
    · exact common_gg a b w ha hb h1 h2
end Go.Proofs.YtlpdeadmiinhoaaGreatDoor
