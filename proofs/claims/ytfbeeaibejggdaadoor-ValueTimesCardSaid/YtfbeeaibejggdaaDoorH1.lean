/- An argument that is a value stands for a tree. -/
import Derived.Test.YtfbeeaibejggdaaDoorAA
import Derived.Deep.Slices
import Derived.Deep.Fields
import Derived.ChangeSame
import Derived.SizedLaws
namespace Go.Proofs.YtfbeeaibejggdaaDoor
open Go.RowKit Go.ChangeShapes Go.WideShapes Go.Deep

section
variable {H : Type} {enc : TypeId × Value → H} {w : World}

theorem wts_slice {t e : TypeId} {a b : List (DataW H)} (ht : Tryd.prog.underlying t = some (.slice e)) (h : ((DataW.slice a b).weights Tryd.prog t).all (· ≤ reachBytes) = true) :
    (a.length + b.length) * Tryd.prog.bytesOf e ≤ reachBytes ∧ (DataW.weightsAll Tryd.prog e a).all (· ≤ reachBytes) = true := by
  unfold DataW.weights at h
  rw [ht] at h
  simp only [List.all_cons, List.all_append, Bool.and_eq_true, decide_eq_true_eq] at h
  exact ⟨h.1, h.2.1⟩

theorem wts_mem {e : TypeId} : ∀ {l : List (DataW H)} {d : DataW H}, d ∈ l → (DataW.weightsAll Tryd.prog e l).all (· ≤ reachBytes) = true → (d.weights Tryd.prog e).all (· ≤ reachBytes) = true
  | [], _, hm, _ => by cases hm
  | x :: r, d, hm, h => by
    rw [DataW.weightsAll, List.all_append, Bool.and_eq_true] at h
    rcases List.mem_cons.1 hm with rfl | hm
    · exact h.1
    · exact wts_mem hm h.2

theorem int_wf {n : Int} (h : (Lit.int .i64 n).wf = true) : I64 n := by
  simp [Lit.wf, IntKind.min, IntKind.max, IntKind.bits, IntKind.signed] at h
  unfold I64
  omega

theorem keys_of {fuel : Nat} {v : Value} {x : DataW H × List MemPlace} (h : DataW.trod enc Tryd.prog w 0 (fun _ => true) true fuel 22 [v] = some x) (hs : (x.1.weights Tryd.prog 22).all (· ≤ reachBytes) = true) :
    ∃ (ka : Option Addr) (kc : Nat) (keys : List Int), v = .slice ka keys.length kc ∧ keys.length ≤ 17592186044416 ∧ KeysIn w ka keys := by
  rcases open_ints Tryd.underlying22 Tryd.underlying3 (by kernel_rfl) h with ⟨hv, _⟩ | ⟨a, len, cap, zs, hv, _, hl, _, hzl, hx, hc, hwf⟩
  · simp only [List.cons.injEq, and_true] at hv
    subst hv
    exact ⟨none, 0, [], rfl, by simp, fun i hi => by simp at hi⟩
  · simp only [List.cons.injEq, and_true] at hv
    subst hv
    simp only [if_true] at hzl
    have hlen : (zs.take len).length = len := by rw [List.length_take]; omega
    have hsz : zs.length * 8 ≤ reachBytes := by
      rw [hx] at hs
      have h1 := (wts_slice Tryd.underlying22 hs).1
      simp only [lits, List.length_map, List.length_take, List.length_drop] at h1
      have h2 : Tryd.prog.bytesOf 3 = 8 := by kernel_rfl
      rw [h2] at h1
      rw [show min len zs.length + (zs.length - len) = zs.length by omega] at h1
      exact h1
    unfold reachBytes at hsz
    refine ⟨some a, cap, zs.take len, by rw [hlen], by omega, fun i hi => ?_⟩
    have hiz : i < zs.length := by omega
    have hci := hc i hiz
    obtain ⟨b, off, spot⟩ := a
    have hspot : spot = none := by simpa [Addr.add] using World.cell?_spot (hc 0 (by omega))
    subst hspot
    have hadd : (⟨b, off, none⟩ : Addr).add i = ⟨b, off + i, none⟩ := by unfold Addr.add; split <;> simp_all
    rw [hadd] at hci
    have hg : (zs.take len).getD i 0 = zs.getD i 0 := by
      simp [List.getD, List.getElem?_take, show i < len by omega]
    rw [hg]
    refine ⟨b, off, rfl, hci, int_wf (hwf _ ?_)⟩
    rw [show zs.getD i 0 = zs[i] by simp [List.getD, hiz]]
    exact List.getElem_mem hiz

theorem kids_of {a : Option Addr} (len : Nat) (hk : ∀ i, i < len → ∃ t, ∃ b off v0 v1 v2 v3 v4, a = some ⟨b, off, none⟩ ∧ w.cell? ⟨b, off + i * 5, none⟩ = some v0 ∧ w.cell? ⟨b, off + i * 5 + 1, none⟩ = some v1 ∧ w.cell? ⟨b, off + i * 5 + 2, none⟩ = some v2 ∧ w.cell? ⟨b, off + i * 5 + 3, none⟩ = some v3 ∧ w.cell? ⟨b, off + i * 5 + 4, none⟩ = some v4 ∧ Rep w t (.agg #[v0, v1, v2, v3, v4])) :
    ∀ n i, i + n = len → ∃ l : List T, l.length = n ∧ KidsIn w a i l
  | 0, _, _ => ⟨[], rfl, by unfold KidsIn; trivial⟩
  | n + 1, i, h => by
    obtain ⟨l, hl, hr⟩ := kids_of len hk n (i + 1) (by omega)
    obtain ⟨t, ht⟩ := hk i (by omega)
    refine ⟨t :: l, by simp [hl], ?_⟩
    unfold KidsIn
    exact ⟨ht, hr⟩

set_option maxRecDepth 10000 in
theorem tree_of : ∀ (N fuel : Nat), fuel ≤ N → ∀ (cs : List Value) (x : DataW H × List MemPlace), DataW.trod enc Tryd.prog w 0 (fun _ => true) true fuel 25 cs = some x → (x.1.weights Tryd.prog 25).all (· ≤ reachBytes) = true →
    ∃ t, Rep w t (.agg cs.toArray) := by
  intro N
  induction N with
  | zero =>
    intro fuel hf cs x h
    obtain rfl : fuel = 0 := by omega
    simp [DataW.trod] at h
  | succ N ih =>
    intro fuel hf cs x h hs
    obtain ⟨ys, n, rfl, hx, hlen, hyl, hg⟩ := DataW.trod_struct Tryd.underlying25 h
    have hC : Tryd.prog.cellsOf 25 = 5 := by kernel_rfl
    have hc3 : Tryd.prog.cellsOf 3 = 1 := by kernel_rfl
    have hc9 : Tryd.prog.cellsOf 9 = 1 := by kernel_rfl
    have hc22 : Tryd.prog.cellsOf 22 = 1 := by kernel_rfl
    have hc23 : Tryd.prog.cellsOf 23 = 1 := by kernel_rfl
    rw [hC] at hlen
    match cs, hlen, ys, hyl with
    | [c0, c1, c2, c3, c4], _, [y0, y1, y2, y3, y4], _ =>
      have g0 : DataW.trod enc Tryd.prog w 0 (fun _ => true) true n 3 [c0] = some y0 := by simpa [hc3] using hg 0 _ rfl
      have g1 : DataW.trod enc Tryd.prog w 0 (fun _ => true) true n 3 [c1] = some y1 := by simpa [hc3] using hg 1 _ rfl
      have g2 : DataW.trod enc Tryd.prog w 0 (fun _ => true) true n 9 [c2] = some y2 := by simpa [hc9] using hg 2 _ rfl
      have g3 : DataW.trod enc Tryd.prog w 0 (fun _ => true) true n 22 [c3] = some y3 := by simpa [hc22] using hg 3 _ rfl
      have g4 : DataW.trod enc Tryd.prog w 0 (fun _ => true) true n 23 [c4] = some y4 := by simpa [hc23] using hg 4 _ rfl
      obtain ⟨n0, e0, f0, w0⟩ := DataW.trod_int Tryd.underlying3 g0
      obtain ⟨n1, e1, f1, w1⟩ := DataW.trod_int Tryd.underlying3 g1
      obtain ⟨s, e2, f2, _⟩ := DataW.trod_string Tryd.underlying9 g2
      simp only [List.cons.injEq, and_true] at e0 e1 e2
      subst e0; subst e1; subst e2
      rw [hx] at hs
      unfold DataW.weights at hs
      rw [Tryd.underlying25] at hs
      simp only [List.map_cons, List.map_nil, DataW.weightsEach, List.append_nil, List.all_append, Bool.and_eq_true] at hs
      obtain ⟨_, _, hs2, hs3, hs4⟩ := hs
      obtain ⟨ka, kc, keys, rfl, hkl, hkeys⟩ := keys_of g3 hs3
      have hsl : s.size ≤ 140737488355328 := by
        rw [f2] at hs2
        unfold DataW.weights at hs2
        simp only [List.all_cons, List.all_nil, Bool.and_true, decide_eq_true_eq, Array.length_toList] at hs2
        unfold reachBytes at hs2
        have : s.data.size = s.size := rfl
        omega
      rcases DataW.trod_slice Tryd.underlying23 g4 with ⟨hv, _⟩ | ⟨a, len, cap, elems, rest, n', hn', hv, hx4, _, hl, _, hel, hi, _, _⟩
      · simp only [List.cons.injEq, and_true] at hv
        subst hv
        refine ⟨.mk n0 n1 s keys [], ?_⟩
        unfold Rep
        exact ⟨ka, none, kc, 0, rfl, int_wf w0, int_wf w1, hsl, hkl, by simp, hkeys, by unfold KidsIn; trivial⟩
      · simp only [List.cons.injEq, and_true] at hv
        subst hv
        rw [hx4] at hs4
        obtain ⟨hw4, ha4⟩ := wts_slice Tryd.underlying23 hs4
        have hb25 : Tryd.prog.bytesOf 25 = 80 := by kernel_rfl
        rw [hb25] at hw4
        simp only [List.length_map] at hw4
        unfold reachBytes at hw4
        have hall : ∀ i, i < len → ∃ t, ∃ b off v0 v1 v2 v3 v4, some a = some ⟨b, off, none⟩ ∧ w.cell? ⟨b, off + i * 5, none⟩ = some v0 ∧ w.cell? ⟨b, off + i * 5 + 1, none⟩ = some v1 ∧ w.cell? ⟨b, off + i * 5 + 2, none⟩ = some v2 ∧ w.cell? ⟨b, off + i * 5 + 3, none⟩ = some v3 ∧ w.cell? ⟨b, off + i * 5 + 4, none⟩ = some v4 ∧ Rep w t (.agg #[v0, v1, v2, v3, v4]) := by
          intro i hil
          have hii := hi i hil
          rw [hC, List.getElem?_eq_getElem (by omega), Option.bind_eq_some_iff] at hii
          obtain ⟨cs', hcs, htr⟩ := hii
          obtain ⟨_, hcl, hat⟩ := World.cells?_some hcs
          have hwi : ((elems[i]'(by omega)).1.weights Tryd.prog 25).all (· ≤ reachBytes) = true := wts_mem (List.mem_map.2 ⟨_, List.getElem_mem _, rfl⟩) ha4
          obtain ⟨t, ht⟩ := ih n' (by omega) cs' _ htr hwi
          match cs', hcl, hat, ht with
          | [v0, v1, v2, v3, v4], _, hat, ht =>
            have q0 := hat 0 (by omega)
            have q1 := hat 1 (by omega)
            have q2 := hat 2 (by omega)
            have q3 := hat 3 (by omega)
            have q4 := hat 4 (by omega)
            obtain ⟨b, off, spot⟩ := a
            have hspot : spot = none := by
              have h00 := hi 0 (by omega)
              rw [hC, List.getElem?_eq_getElem (by omega), Option.bind_eq_some_iff] at h00
              obtain ⟨cs0, hcs0, _⟩ := h00
              obtain ⟨_, hcl0, hat0⟩ := World.cells?_some hcs0
              have h01 := hat0 0 (by omega)
              rw [List.getElem?_eq_getElem (by omega)] at h01
              simpa [Addr.add] using World.cell?_spot h01
            subst hspot
            have hadd : ∀ (o j : Nat), (⟨b, o, none⟩ : Addr).add j = ⟨b, o + j, none⟩ := by intro o j; unfold Addr.add; split <;> simp_all
            simp only [hC, hadd] at q0 q1 q2 q3 q4
            exact ⟨t, b, off, v0, v1, v2, v3, v4, rfl, q0, q1, q2, q3, q4, ht⟩
        obtain ⟨kids, hkn, hkids⟩ := kids_of len hall len 0 (by omega)
        subst hkn
        refine ⟨.mk n0 n1 s keys kids, ?_⟩
        unfold Rep
        exact ⟨ka, some a, kc, cap, rfl, int_wf w0, int_wf w1, hsl, hkl, by omega, hkeys, hkids⟩
end
end Go.Proofs.YtfbeeaibejggdaaDoor
