/- The iterator over the frames that were taken; Read. -/
import Derived.Test.YtgcohmlapgnbdaaRQ
import Derived.OwnWalkIn
import Derived.TacticsInMore
import Derived.LoopNIn
import Derived.LoopIn
namespace Go.Proofs.Ytgcohmlapgnbdaa
open Go.RowKit Go.Shelf Go.Deep
attribute [local go_sem] Oper.semAt_some

theorem wpListIn_append_moves {F : Fence} {n : Nat} {P : Program} (w : World) {ops : Array Oper} {rest : List Oper} {o : Oper} {a : Act} {Q : Exit → Act → World → Prop}
    (hg : o.guard = none) (s x : Operand) (t : TypeId) (hop : o.op = Op.call { callee := Callee.builtin Builtin.append, args := #[s, x], argTypes := #[t, t] })
    (base : Nat) (e : TypeId) (i : TypeInfo) (z : Value) (size bytes : Nat) (h1 : P.underlying t = some (.slice e)) (h2 : P.info? e = some i) (h3 : i.zero = some z) (h4 : i.size = size) (h5 : i.bytes = bytes) (h6 : z.cells.size = size) (h7 : 0 < size)
    (v : Value) (k : Nat) (xs : List Value) (hs : a.eval s = v) (hown : w.ownsRow base e size v k xs) (ad : Addr) (m c : Nat) (news : List Value) (hx : a.eval x = .slice (some ad) m c) (hn : news.length = m * size)
    (hc : ∀ j u, news[j]? = some u → w.cell? (ad.add j) = some u) (h1c : ∀ u ∈ news, u.oneCell' = true) (b1 : k + m ≤ maxLen) (b2 : (k + m) * bytes ≤ 140737488355328) (b3 : base ≤ w.heap.size)
    (hK : ∀ v' w', w'.ownsRow base e size v' (k + m) (xs ++ news) → w.grownBy w' v.ownBlock → Moved w v v' → wpListIn F n P ops Q rest (a.put o.dst v') w') :
    wpListIn F n P ops Q (o :: rest) a w := by
  refine wpListIn_plain hg fun K hK' => ?_
  obtain ⟨v', w', hrun, r1, r2, r3⟩ := run_append_moves (P := P) w base t o.type e i z size bytes h1 h2 h3 h4 h5 h6 h7 v k xs hown ad m c news hn hc h1c b1 b2 b3
  unfold Oper.wpIn
  refine ⟨?_, ?_⟩
  · simp [Oper.about, hop, resolve, Target.leads, Sem.run_pure]
  · rw [Oper.semAt_plain F _ _ (by rw [hop]; intro c hc'; cases hc')]
    simp [execOp, hop, resolve, invoke, builtin, hs, hx, hrun, Result.andThen]
    exact hK' _ _ (hK v' w' r1 r2 r3)

/-- The frame j behind the reader's counter. -/
def frJ (g : Rg) (j : Nat) : List Int := g.frame ((g.rc + j) % 65536)
def takenY (g : Rg) (pre : List Value) (x : Value) (W0 W1 : World) : Prop := RowNew W0.heap.size W1 (frJ g pre.length) x
theorem OwnFrom.below {β : Type} {B : Nat} {I : β → World → Prop} (h : OwnFrom B I) {s : β} {X Y : World} (hs : I s X) (hb : Below X.heap.size X Y) : I s Y :=
  h s X Y none hs ⟨hb.os, hb.tape, hb.output, hb.size, fun k hk _ => hb.block k hk⟩ (fun r e => by cases e)
set_option maxHeartbeats 4000000 in
set_option maxRecDepth 100000 in
theorem taken_seq (n : Nat) (hn : 6 ≤ n) (P R Bt k n0 : Nat) (g : Rg) (w : World) (h : RingAt P R g w) (hok : g.Ok) (hh : g.rh = true) (hk : g.rn = k) (hk2 : k ≤ 100000) (hP : P < n0) (hR : R < n0) (hn0 : n0 ≤ w.heap.size) (kt : w.cell? ⟨Bt, 0, none⟩ = some (.pointer (some ⟨P, 0, none⟩))) :
    SeqY Fence.wide n Try.prog 93 #[at0 Bt] (takenY g) (KpI n0 Bt) (fun xs => xs.length = k) k w := by
  intro l J W hW hJ hY h0
  have HY := Lib.hid hY
  have HJ := Lib.hid hJ
  have hs := Same.of_below hW
  have hsz := hW.size
  have hRW := h.below hW
  have m0 := hs.cell kt
  have m10 : W.cell? ⟨P, 10, none⟩ = some (.int .i64 g.rn) := hRW.c (k := 10) (by decide) (by decide)
  rw [hk] at m10
  have HOK := Lib.hid hok
  have HH := Lib.hid (And.intro hh hk)
  have HRW := Lib.hid hRW
  have HN := Lib.hid (And.intro (And.intro hP hR) (Nat.le_trans hn0 hsz))
  have HM := Lib.hid m0
  clear hY hJ hW hs hok hh hk h kt hRW hP hR hn0 hsz
  refine callsIn_of_wp Try.func93 rfl trivial ?_ rfl
  simp only [Try.ntmps93, List.size_toArray, List.length_cons, List.length_nil, Nat.reduceAdd, Nat.reduceSub, Array.replicate_succ, Array.replicate_zero, List.push_toArray, List.append_toArray, List.nil_append, List.cons_append]
  gi_wp2
  gi_loopw [10] (fun i wr => ∃ j : Nat, j ≤ k ∧ i = .int .i64 j ∧ RingAt P R g wr ∧ (wr.cell? ⟨Bt, 0, none⟩ = some (.pointer (some ⟨P, 0, none⟩)) ∧ n0 ≤ wr.heap.size) ∧ ∃ q : List Value, q.length = j ∧ J q wr) (fun i _ => k - (intOf i).toNat)
  case atStart => exact ⟨0, Nat.zero_le _, rfl, HRW.out, ⟨HM.out, HN.out.2⟩, [], rfl, h0⟩
  case round =>
    clear m0 m10 h0
    obtain ⟨j, hj, rfl, hr, ⟨m0, hnw⟩, q, hq, hJq⟩ := hrel
    by_cases hlt : j < k
    · have w4 : (j : Int) < (k : Int) := by omega
      have hget := get_yes P R g j wr hr HOK.out (by unfold atK; rw [HH.out.1, HH.out.2]; rw [if_neg (by omega), if_neg (by decide), if_pos w4])
      rw [show g.frame ((g.rc + j) % 65536) = frJ g j from rfl] at hget
      have HR := Lib.hid hr
      have HQ := Lib.hid hq
      have HJQ := Lib.hid hJq
      clear hr hq hJq
      gi_wp2
      refine ⟨trivial, fun _ => by omega, (callsIn_wide.2 hget).mono ?_⟩
      rintro e w1 ⟨u, rfl, hu, hb1⟩
      have hJ1 := OwnFrom.below HJ.out HJQ.out hb1
      have HR1 := Lib.hid (HR.out.below hb1)
      have HM1 := Lib.hid ((Same.of_below hb1).cell m0)
      have hnw1 := Nat.le_trans hnw hb1.size
      obtain ⟨fn, tmps, assign, body, hy, hRR⟩ := HY.out q u wr w1 HJQ.out hb1 (by unfold takenY; rw [HQ.out]; exact hu) (by rw [HQ.out]; exact hlt)
      clear hJ1 hb1 hget m0 hu
      gi_wp2
      refine ⟨fun _ => by omega, hRR.mono ?_⟩
      rintro e W3 ⟨rfl, hJ3, hk3, _⟩
      have HR3 := Lib.hid (HR1.out.of_blocks (hk3.1.block _ HN.out.1.1) (hk3.1.block _ HN.out.1.2))
      have HM3 := Lib.hid (hk3.cell HM1.out)
      have hsw3 := Nat.le_trans hnw1 hk3.1.size
      have HJ3 := Lib.hid hJ3
      clear hk3 hRR hy hJ3
      gi_wp2
      go_roundw
      case rel => exact ⟨j + 1, by omega, by go_num, HR3.out, ⟨HM3.out, hsw3⟩, q ++ [u], by simp [HQ.out], HJ3.out⟩
      case measure => simp [intOf]; omega
    · obtain rfl : j = k := by omega
      have w4 : ¬ (j : Int) < (j : Int) := by omega
      gi_wp2
      go_end0
      exact ⟨⟨_, rfl⟩, q, hq, hJq⟩
end Go.Proofs.Ytgcohmlapgnbdaa
