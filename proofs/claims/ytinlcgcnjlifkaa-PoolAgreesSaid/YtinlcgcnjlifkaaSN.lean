/- The counts of a wish; the least number that is in both of two rows. -/
import Derived.Test.YtinlcgcnjlifkaaSL
namespace Go.Proofs.Ytinlcgcnjlifkaa
open Go.RowKit Go.Shelf Go.Deep

theorem keep_blk {w w' : World} {i : Nat} {o : Obj} (h : Below w.heap.size w w') (hi : w.heap[i]? = some o) : w'.heap[i]? = some o := (h.block i (Array.getElem?_eq_some_iff.1 hi).1).trans hi
theorem cells6 {w : World} {N t : Nat} {c b z s a k : Int} (h : w.heap[N]? = some (.cells #[.int .i64 c, .int .i64 b, .int .i64 z, .int .i64 s, .int .i64 a, .int .i64 k] t)) : w.cell? ⟨N, 0, none⟩ = some (.int .i64 c) ∧ w.cell? ⟨N, 1, none⟩ = some (.int .i64 b) ∧ w.cell? ⟨N, 2, none⟩ = some (.int .i64 z) ∧ w.cell? ⟨N, 3, none⟩ = some (.int .i64 s) ∧ w.cell? ⟨N, 4, none⟩ = some (.int .i64 a) ∧ w.cell? ⟨N, 5, none⟩ = some (.int .i64 k) := by
  refine ⟨?_, ?_, ?_, ?_, ?_, ?_⟩
  all_goals (unfold World.cell?; rw [h]; rfl)
theorem cells7 {w : World} {N t : Nat} {a1 a2 a3 a4 a5 a6 a7 : Int} (h : w.heap[N]? = some (.cells #[.int .i64 a1, .int .i64 a2, .int .i64 a3, .int .i64 a4, .int .i64 a5, .int .i64 a6, .int .i64 a7] t)) : w.cell? ⟨N, 0, none⟩ = some (.int .i64 a1) ∧ w.cell? ⟨N, 1, none⟩ = some (.int .i64 a2) ∧ w.cell? ⟨N, 2, none⟩ = some (.int .i64 a3) ∧ w.cell? ⟨N, 3, none⟩ = some (.int .i64 a4) ∧ w.cell? ⟨N, 4, none⟩ = some (.int .i64 a5) ∧ w.cell? ⟨N, 5, none⟩ = some (.int .i64 a6) ∧ w.cell? ⟨N, 6, none⟩ = some (.int .i64 a7) := by
  refine ⟨?_, ?_, ?_, ?_, ?_, ?_, ?_⟩
  all_goals (unfold World.cell?; rw [h]; rfl)
theorem kinds_has (n : Int) (k : Nat) (hk : k ≤ 7) : (kindsTo n 8).contains (k : Int) = bitB n k := by
  rw [Bool.eq_iff_iff, List.contains_iff_mem]
  unfold kindsTo
  rw [List.mem_map]
  constructor
  · rintro ⟨j, hj, he⟩
    obtain rfl : j = k := by omega
    exact (List.mem_filter.1 hj).2
  · intro h
    exact ⟨k, List.mem_filter.2 ⟨List.mem_range.2 (by omega), h⟩, rfl⟩
def cntTo (a : Int) (m : Nat) : List Int := (List.range m).map fun q : Nat => a + (q : Int)
theorem cntTo_len (a : Int) (m : Nat) : (cntTo a m).length = m := by simp [cntTo]
theorem cntTo_succ (a : Int) (m : Nat) : cntTo a (m + 1) = cntTo a m ++ [a + (m : Int)] := by simp [cntTo, List.range_succ]
theorem cntTo_ok {a : Int} {m : Nat} (h0 : 0 ≤ a) (h1 : a ≤ 1000) (hm : m ≤ 1000) : okRow (cntTo a m) := by
  refine ⟨by rw [cntTo_len]; omega, fun i hi => ?_⟩
  rw [cntTo_len] at hi
  rw [show (cntTo a m).getD i 0 = a + (i : Int) by simp [cntTo, List.getD, hi]]
  unfold I64
  omega
set_option maxHeartbeats 2000000 in
set_option maxRecDepth 100000 in
theorem counts_any (d : Wish) (h0 : 1 ≤ d.least) (h1 : d.least ≤ d.most) (h2 : d.most ≤ 64) (w : World) : Calls Try.prog 53 #[d.v] w (RowA (cntTo d.least (d.most - d.least + 1).toNat) w) := by
  obtain ⟨a1, a2, a3, a4, a5, a6, a7⟩ := d
  show Calls Try.prog 53 #[.agg #[.int .i64 a1, .int .i64 a2, .int .i64 a3, .int .i64 a4, .int .i64 a5, .int .i64 a6, .int .i64 a7]] w (RowA (cntTo a1 (a2 - a1 + 1).toNat) w)
  dsimp only at h0 h1 h2
  obtain ⟨O, hO⟩ : ∃ O, Obj.cells #[.int .i64 a1, .int .i64 a2, .int .i64 a3, .int .i64 a4, .int .i64 a5, .int .i64 a6, .int .i64 a7] 23 = O := ⟨_, rfl⟩
  have hb : Below w.heap.size w (w.alloc O) := below_box w O
  have hO2 : (w.alloc O).heap[w.heap.size]? = some O := blk_alloc_new w O
  obtain ⟨Z, hZ⟩ : ∃ Z, w.alloc O = Z := ⟨_, rfl⟩
  have hsz : Z.heap.size = w.heap.size + 1 := by rw [← hZ]; simp
  rw [hZ] at hb hO2
  subst hO
  have HB := Lib.hid hb
  have HSZ := Lib.hid hsz
  have HX : Hid (∀ y, Below Z.heap.size Z y → y.cell? ⟨w.heap.size, 0, none⟩ = some (.int .i64 a1) ∧ y.cell? ⟨w.heap.size, 1, none⟩ = some (.int .i64 a2)) := Lib.hid fun y hy => by
    have h9 := (hy.block _ (by rw [hsz]; omega)).trans hO2
    refine ⟨?_, ?_⟩ <;> (unfold World.cell?; rw [h9]; rfl)
  obtain ⟨E, hE⟩ : ∃ E, (a2 - a1 + 1).toNat = E := ⟨_, rfl⟩
  rw [hE]
  have hEb : (E : Int) = a2 - a1 + 1 := by omega
  have HN := Lib.hid (show (1 ≤ a1 ∧ a1 ≤ a2 ∧ a2 ≤ 64) ∧ (E : Int) = a2 - a1 + 1 from ⟨⟨h0, h1, h2⟩, hEb⟩)
  clear hb hO2 hsz hE hEb h0 h1 h2
  have c0 := (HX.out Z (Below.refl _ _)).1
  go_enter Try.func53, Try.ntmps53
  go_wp2_with fail
  clear hZ c0
  go_loopw [4, 3] (fun i v wr => ∃ j : Nat, i = .int .i64 (a1 + (j : Int)) ∧ j ≤ E ∧ wr.ownsRow Z.heap.size 3 1 v (cntTo a1 j).length ((cntTo a1 j).map (Value.int .i64)) ∧ Below Z.heap.size Z wr) (fun i _ _ => E - (intOf i - a1).toNat)
  case atStart => exact ⟨0, by simp, Nat.zero_le _, (World.ownsRow_nil _ _ _ _ : Z.ownsRow Z.heap.size 3 1 (.slice none 0 0) 0 []), Below.refl _ _⟩
  case round =>
    obtain ⟨j, rfl, hj, ho, hb⟩ := hrel
    have HO := Lib.hid ho
    have HBW := Lib.hid hb
    have c6 := (HX.out _ hb).2
    clear ho hb
    have hn := HN.out
    by_cases hlt : j < E
    · have w4 : a1 + (j : Int) ≤ a2 := by omega
      have HLT := Lib.hid hlt
      have f5 : wrap64 (a1 + (j : Int) + 1) = a1 + ((j + 1 : Nat) : Int) := by unfold wrap64; omega
      have HM : Hid (E - (intOf (.int .i64 (a1 + ((j + 1 : Nat) : Int))) - a1).toNat < E - (intOf (.int .i64 (a1 + (j : Int))) - a1).toNat) := Lib.hid (by simp only [intOf]; omega)
      obtain ⟨x, hx⟩ : ∃ x, a1 + (j : Int) = x := ⟨_, rfl⟩
      have HXV := Lib.hid hx
      have HK : Hid (cntTo a1 (j + 1) = cntTo a1 j ++ [x]) := Lib.hid (by rw [cntTo_succ, hx])
      rw [hx] at w4 f5 HM
      rw [hx]
      clear hn hlt hx hj
      go_upto_region 5 with fail
      have ho2 := HO.out.alloc (.cells #[.int .i64 x] 3)
      have HO2 := Lib.hid ho2
      obtain ⟨pv, cv, rfl⟩ := slice_owns3 HO.out
      have HB2 : Hid (Below Z.heap.size Z (wr.alloc (.cells #[.int .i64 x] 3))) := Lib.hid (HBW.out.alloc HBW.out.size _)
      clear ho2
      go_wp2_with (at_builtin; refine wpList_append_ints rfl (.tmp 13) (.tmp 15) rfl Z.heap.size _ (cntTo a1 j).length (cntTo a1 j) rfl HO2.out (some ⟨wr.heap.size, 0, none⟩) 1 1 rfl [x] rfl (fun _ => ⟨⟨wr.heap.size, 0, none⟩, rfl, fun q hq => by
        obtain rfl : q = 0 := by omega
        exact cell_one_new wr (.int .i64 x) 3 0 _ rfl⟩) (by rw [cntTo_len]; have := HLT.out; have := HN.out; simp; omega) HB2.out.size ?_)
      intro v' w' o3 g3 m3
      have HO3 : Hid (w'.ownsRow Z.heap.size 3 1 v' (cntTo a1 (j + 1)).length ((cntTo a1 (j + 1)).map (Value.int .i64))) := Lib.hid (by rw [HK.out, List.length_append, List.map_append]; exact o3)
      have HB3 : Hid (Below Z.heap.size Z w') := Lib.hid (HB2.out.grown g3 HB2.out.size (fun k e => (HO2.out.lt k e).1))
      clear o3 g3 m3
      go_wp2_with fail
      go_roundw
      case rel => exact ⟨j + 1, by rw [f5], HLT.out, HO3.out, HB3.out⟩
      case measure => rw [f5]; exact HM.out
    · have w4 : ¬ a1 + (j : Int) ≤ a2 := by omega
      obtain rfl : j = E := by omega
      have hok : okRow (cntTo a1 j) := cntTo_ok (by omega) (by omega) (by omega)
      have HR := Lib.hid (owns_row (w' := wr) HO.out hok (fun _ _ _ => rfl))
      clear hn
      go_wp2_with fail
      go_ret
      exact ⟨_, rfl, HR.out, HB.out.trans (HBW.out.mono (by rw [HSZ.out]; omega))⟩

def lcT (f : Int) (xs ys : List Int) : Option Int := xs.find? fun x => decide (f ≤ x) && ys.contains x
def lcV (f : Int) (xs ys : List Int) : Value := .tuple #[.int .i64 ((lcT f xs ys).getD 0), .bool (lcT f xs ys).isSome]
theorem find_take {p : Int → Bool} : ∀ (l : List Int) (j : Nat) (x : Int), (∀ q, q < j → p (l.getD q 0) = false) → j < l.length → l.getD j 0 = x → p x = true → l.find? p = some x
  | [], j, x, _, h, _, _ => absurd h (Nat.not_lt_zero _)
  | y :: l, 0, x, _, _, he, hp => by
    have : y = x := he
    subst this
    simp [hp]
  | y :: l, j + 1, x, hno, h, he, hp => by
    have h0 : p y = false := hno 0 (Nat.succ_pos _)
    rw [List.find?_cons, h0]
    exact find_take l j x (fun q hq => hno (q + 1) (by omega)) (by simpa using h) he hp
theorem find_none {p : Int → Bool} (l : List Int) (hno : ∀ q, q < l.length → p (l.getD q 0) = false) : l.find? p = none := by
  rw [List.find?_eq_none]
  intro x hx
  obtain ⟨q, hq, he⟩ := List.getElem_of_mem hx
  have := hno q hq
  rw [show l.getD q 0 = x by rw [← he]; simp [List.getD, hq]] at this
  simp [this]
set_option maxHeartbeats 1000000 in
set_option maxRecDepth 100000 in
theorem least_any (f : Int) (xs ys : List Int) (va vb : Value) (w : World) (ha : RowIn w xs va) (hb : RowIn w ys vb) : Calls Try.prog 52 #[.int .i64 f, va, vb] w fun e w' => e = .returned (lcV f xs ys) ∧ w = w' := by
  have HC : Hid (∀ x, Calls Try.prog 27 #[vb, .int .i64 x] w fun e w' => e = .returned (.bool (ys.contains x)) ∧ w = w') := Lib.hid fun x => contains_any ys vb x w hb
  obtain ⟨ab, cb, rfl, _, _, _⟩ := hb
  obtain ⟨a, ca, rfl, hin, hl, _⟩ := ha
  have HIN := Lib.hid hin
  clear hin
  go_enter Try.func52, Try.ntmps52
  go_wp2_with fail
  go_loop [12, 6] (fun i z => ∃ j : Nat, i = .int .i64 j ∧ z = .int .i64 0 ∧ j ≤ xs.length ∧ ∀ q, q < j → (decide (f ≤ xs.getD q 0) && ys.contains (xs.getD q 0)) = false) (fun i _ => xs.length - (intOf i).toNat)
  case atStart => exact ⟨0, rfl, rfl, Nat.zero_le _, fun q hq => absurd hq (Nat.not_lt_zero _)⟩
  case round =>
    obtain ⟨j, rfl, rfl, hj, hno⟩ := hrel
    have HNO := Lib.hid hno
    clear hno
    by_cases hlt : j < xs.length
    · have w4 : (j : Int) < (xs.length : Int) := by omega
      have w5 : (0 : Int) ≤ (j : Int) := by omega
      obtain ⟨b, o, rfl, hc, _⟩ := HIN.out j hlt
      obtain ⟨y, hy⟩ : ∃ y, xs.getD j 0 = y := ⟨_, rfl⟩
      rw [hy] at hc
      have HY := Lib.hid hy
      have HLT := Lib.hid hlt
      clear hy
      by_cases g : f ≤ y
      · cases hyb : ys.contains y with
        | true =>
          have HF : Hid (lcT f xs ys = some y) := Lib.hid (find_take xs j y HNO.out HLT.out HY.out (by simp [g]; simpa using hyb))
          go_wp2_with (go_at_call 27; (with_reducible refine (HC.out _).mono ?_); rintro e w1 ⟨rfl, rfl⟩; try rw [hyb])
          go_ret2
          exact ⟨by simp [lcV, HF.out], rfl⟩
        | false =>
          have HF := Lib.hid (show (decide (f ≤ y) && ys.contains y) = false by rw [hyb]; simp)
          go_wp2_with (go_at_call 27; (with_reducible refine (HC.out _).mono ?_); rintro e w1 ⟨rfl, rfl⟩; try rw [hyb])
          go_round
          case rel => exact ⟨j + 1, by go_num, rfl, HLT.out, fun q hq => by
            by_cases eq : q = j
            · subst eq; rw [HY.out]; exact HF.out
            · exact HNO.out q (by omega)⟩
          case measure => have := HLT.out; simp [intOf]; omega
      · have HF := Lib.hid (show (decide (f ≤ y) && ys.contains y) = false by simp [g])
        go_wp2_with fail
        go_round
        case rel => exact ⟨j + 1, by go_num, rfl, HLT.out, fun q hq => by
          by_cases eq : q = j
          · subst eq; rw [HY.out]; exact HF.out
          · exact HNO.out q (by omega)⟩
        case measure => have := HLT.out; simp [intOf]; omega
    · have w4 : ¬ (j : Int) < (xs.length : Int) := by omega
      obtain rfl : j = xs.length := by omega
      have HF : Hid (lcT f xs ys = none) := Lib.hid (find_none xs HNO.out)
      go_wp2_with fail
      go_ret2
      exact ⟨by simp [lcV, HF.out], rfl⟩
end Go.Proofs.Ytinlcgcnjlifkaa
