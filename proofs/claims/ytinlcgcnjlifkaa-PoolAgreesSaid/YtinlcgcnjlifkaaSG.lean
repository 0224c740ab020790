/- Blocks laid one behind the other: the iterator. -/
import Derived.Test.YtinlcgcnjlifkaaSF
import Derived.OwnWalkIn
import Derived.TacticsInMore
import Derived.LoopNIn
import Derived.LoopIn
namespace Go.Proofs.Ytinlcgcnjlifkaa
open Go.RowKit Go.Shelf Go.Deep
attribute [local go_sem] Oper.semAt_some

/-- What a round keeps: what lies below n0, and block B's cells. -/
def KpI (n0 B : Nat) (X Y : World) : Prop := Below n0 X Y ∧ ∀ o, X.heap[B]? = some o → o.isCells = true → Y.heap[B]? = some o
theorem KpI.trans {n0 B : Nat} {X Y Z : World} (h : KpI n0 B X Y) (k : KpI n0 B Y Z) : KpI n0 B X Z := ⟨h.1.trans k.1, fun o ho hc => k.2 o (h.2 o ho hc) hc⟩
theorem KpI.refl (n0 B : Nat) (X : World) : KpI n0 B X X := ⟨Below.refl _ _, fun _ h _ => h⟩
theorem KpI.put {n0 B l : Nat} (hn : n0 ≤ l) (hl : l ≠ B) (W : World) (o' : Obj) (hlt : l < W.heap.size) : KpI n0 B W (W.putObj l o') :=
  ⟨(Below.refl n0 W).grown (grownBy_putObj' W l o') (by omega) (fun k e => by cases e; omega), fun _ hok _ => (World.putObj_heap_other (fun e => hl e.symm)).trans hok⟩
/-- Where the block before block k ends. -/
def endK (at' sz al : Int) : Nat → Int
  | 0 => at'
  | k + 1 => up (endK at' sz al k) al + sz
theorem endK_bd {at' sz al : Int} (h0 : 0 ≤ at') (hs : 1 ≤ sz ∧ sz ≤ 65536) (ha : 1 ≤ al ∧ al ≤ 256) : ∀ k : Nat, at' ≤ endK at' sz al k ∧ endK at' sz al k ≤ at' + k * 65792
  | 0 => ⟨Int.le_refl _, by simp [endK]⟩
  | k + 1 => by
    obtain ⟨i1, i2⟩ := endK_bd h0 hs ha k
    obtain ⟨u1, u2, _⟩ := up_bd (n := endK at' sz al k) (by omega) ha.1
    show at' ≤ up _ al + sz ∧ up _ al + sz ≤ at' + ((k + 1 : Nat) : Int) * 65792
    omega
def laidV (at' sz al : Int) (b n : Nat) : List (Array Value) := (List.range n).map fun k => #[.int .i64 ((k / b : Nat) : Int), .int .i64 (up (endK at' sz al k) al)]
theorem laidV_len (at' sz al : Int) (b n : Nat) : (laidV at' sz al b n).length = n := by simp [laidV]
theorem laidV_at (at' sz al : Int) (b : Nat) {n k : Nat} (h : k < n) : (laidV at' sz al b n).getD k #[] = #[.int .i64 ((k / b : Nat) : Int), .int .i64 (up (endK at' sz al k) al)] := by simp [laidV, List.getD, h]
def DealAt (Bd : Nat) (c b : Nat) (sz al : Int) (w : World) : Prop := w.cell? ⟨Bd, 0, none⟩ = some (.int .i64 c) ∧ w.cell? ⟨Bd, 1, none⟩ = some (.int .i64 b) ∧ w.cell? ⟨Bd, 2, none⟩ = some (.int .i64 sz) ∧ w.cell? ⟨Bd, 4, none⟩ = some (.int .i64 al)
theorem KpI.cell {n0 B : Nat} {X Y : World} {i : Nat} {v : Value} (h : KpI n0 B X Y) (hc : X.cell? ⟨B, i, none⟩ = some v) : Y.cell? ⟨B, i, none⟩ = some v := by
  have hlt := cell_lt hc
  simp only at hlt
  have hX : X.heap[B]? = some X.heap[B] := Array.getElem?_eq_getElem hlt
  have hcells : X.heap[B].isCells = true := by
    unfold World.cell? at hc
    rw [hX] at hc
    cases ho : X.heap[B] <;> rw [ho] at hc <;> simp [Obj.isCells] at hc ⊢
  rw [World.cell?_of_block (w := X) ((h.2 _ hX hcells).trans hX.symm)]
  exact hc
theorem step_w {j E : Nat} (h1 : j < E) (h2 : E ≤ 512) : wrap64 ((j : Int) + 1) = ((j + 1 : Nat) : Int) ∧ IntKind.i64.wrap ((j : Int) + 1) = ((j + 1 : Nat) : Int) ∧ E - (RowKit.intOf (.int .i64 ((j + 1 : Nat) : Int))).toNat < E - (RowKit.intOf (.int .i64 (j : Int))).toNat :=
  ⟨by unfold wrap64; omega, by rw [IntKind.wrap_i64]; omega, by simp [RowKit.intOf]; omega⟩
set_option maxHeartbeats 4000000 in
set_option maxRecDepth 100000 in
theorem laid_seq (n : Nat) (hn : 6 ≤ n) (Ba Bd n0 c b : Nat) (at' sz al : Int) (w : World) (hat : 0 ≤ at' ∧ at' ≤ 1000000000) (hc : 1 ≤ c ∧ c ≤ 64) (hb : 1 ≤ b ∧ b ≤ 8) (hs : 1 ≤ sz ∧ sz ≤ 65536) (ha : 1 ≤ al ∧ al ≤ 256)
    (hd : DealAt Bd c b sz al w) (ka : w.cell? ⟨Ba, 0, none⟩ = some (.int .i64 at')) :
    SeqZ Fence.wide n Try.prog 50 #[at0 Ba, at0 Bd] (KpI n0 Bd) (laidV at' sz al b (c * b)) w := by
  intro l J W hW hJ hY h0
  have HY := Lib.hid hY
  have hsm := Same.of_below hW
  have m0 := hsm.cell ka
  have HD : Hid (DealAt Bd c b sz al W) := Lib.hid ⟨hsm.cell hd.1, hsm.cell hd.2.1, hsm.cell hd.2.2.1, hsm.cell hd.2.2.2⟩
  obtain ⟨N, hN⟩ : ∃ N, c * b = N := ⟨_, rfl⟩
  have hN2 : N ≤ 512 := by rw [← hN]; exact Nat.mul_le_mul hc.2 hb.2
  have e0 : wrap64 ((c : Int) * (b : Int)) = (N : Int) := by rw [← Int.natCast_mul, hN]; unfold wrap64; omega
  have e00 : IntKind.i64.wrap ((c : Int) * (b : Int)) = (N : Int) := by rw [← Int.natCast_mul, hN, IntKind.wrap_i64]; omega
  have HE := Lib.hid fun k => endK_bd (at' := at') hat.1 hs ha k
  have HM := Lib.hid fun k (hk : k ≤ 512) (X : World) => multiple_any (endK at' sz al k) al (by have := endK_bd (at' := at') hat.1 hs ha k; omega) (by have := endK_bd (at' := at') hat.1 hs ha k; omega) ha.1 (by omega) X
  have HU := Lib.hid fun k => up_bd (n := endK at' sz al k) (k := al) (by have := endK_bd (at' := at') hat.1 hs ha k; omega) ha.1
  have HBB := Lib.hid (And.intro (And.intro hb.1 hN2) (And.intro (And.intro hat ha) hs))
  rw [hN] at HY ⊢
  rw [laidV_len] at HY ⊢
  have HNN := Lib.hid hN
  clear hY hJ hW hsm hat hc hb hs ha hd ka hN hN2
  obtain ⟨d0, d1, d2, d4⟩ := HD.out
  refine callsIn_of_wp Try.func50 rfl trivial ?_ rfl
  simp only [Try.ntmps50, List.size_toArray, List.length_cons, List.length_nil, Nat.reduceAdd, Nat.reduceSub, Array.replicate_succ, Array.replicate_zero, List.push_toArray, List.append_toArray, List.nil_append, List.cons_append]
  gi_wp2
  clear d0 d1 d2 d4
  gi_loopw [13, 4] (fun i v wr => ∃ j : Nat, j ≤ N ∧ i = .int .i64 j ∧ v = .int .i64 (endK at' sz al j) ∧ DealAt Bd c b sz al wr ∧ J j wr) (fun i _ _ => N - (intOf i).toNat)
  case atStart => exact ⟨0, Nat.zero_le _, rfl, rfl, HD.out, h0⟩
  case round =>
    clear m0 h0
    obtain ⟨j, hj, rfl, rfl, hd, hJj⟩ := hrel
    have HDJ := Lib.hid hd
    have HJJ := Lib.hid hJj
    obtain ⟨d0, d1, d2, d4⟩ := hd
    clear hJj
    by_cases hlt : j < N
    · have w4 : (j : Int) < (N : Int) := Int.ofNat_lt.2 hlt
      have hmu := HM.out j (by have := HBB.out.1.2; omega) wr
      have HLT := Lib.hid hlt
      gi_wp2
      refine ⟨trivial, fun _ => by omega, (callsIn_wide.2 hmu).mono ?_⟩
      rintro e w1 ⟨rfl, rfl⟩
      obtain ⟨fn, tmps, assign, body, hy, hRR⟩ := HY.out j wr HLT.out HJJ.out
      rw [laidV_at at' sz al b HLT.out] at hy
      obtain ⟨u1, u2, _⟩ := HU.out j
      have hb2 := HE.out j
      have HEN := Lib.hid (show endK at' sz al (j + 1) = up (endK at' sz al j) al + sz from rfl)
      obtain ⟨of, hof⟩ : ∃ of, up (endK at' sz al j) al = of := ⟨_, rfl⟩
      have g1 : wrap64 ((j : Int) / (b : Int)) = (j : Int) / (b : Int) := by
        have h1 := HBB.out.1.2
        have h2 := Nat.div_le_self j b
        have h3 := HLT.out
        obtain ⟨qb, hqb⟩ : ∃ qb, j / b = qb := ⟨_, rfl⟩
        rw [hqb] at h2
        rw [← Int.natCast_ediv, hqb]
        have h4 : qb ≤ 512 := by omega
        unfold wrap64; omega
      have g2 : wrap64 (of + sz) = of + sz := by
        have h1 := HBB.out.1.2; have h2 := HBB.out.2
        unfold wrap64; omega
      have g3 : ¬ (b : Int) = 0 := by have := HBB.out.1.1; omega
      rw [hof, Int.natCast_ediv] at hy
      rw [hof] at HEN u1 u2 ⊢
      have HG2 := Lib.hid g2
      clear hmu u1 u2 hb2 hof g2
      gi_wp2
      refine ⟨fun _ => by omega, hRR.mono ?_⟩
      rintro e W3 ⟨rfl, hJ3, hk3, _⟩
      have HD3 : Hid (DealAt Bd c b sz al W3) := Lib.hid ⟨hk3.cell HDJ.out.1, hk3.cell HDJ.out.2.1, hk3.cell HDJ.out.2.2.1, hk3.cell HDJ.out.2.2.2⟩
      have HJ3 := Lib.hid hJ3
      obtain ⟨d0', d1', d2', d4'⟩ := HD3.out
      clear hk3 hRR hy hJ3 d0 d1 d2 d4
      have g2 := HG2.out
      obtain ⟨f5, f6, hms⟩ := step_w HLT.out HBB.out.1.2
      have HMS := Lib.hid hms
      clear hms
      gi_wp2
      go_roundw
      case rel => exact ⟨j + 1, HLT.out, by go_num, by rw [HEN.out, g2], HD3.out, HJ3.out⟩
      case measure => exact HMS.out
    · obtain rfl : j = N := by omega
      have w4 : ¬ (j : Int) < (j : Int) := by omega
      gi_wp2
      go_end0
      exact ⟨⟨_, rfl⟩, HJJ.out⟩
end Go.Proofs.Ytinlcgcnjlifkaa
