/- An argument that is a choice stands for one. -/
import Derived.Test.YtlpdeadmiinhoaaGreatDoorBase
import Derived.Deep.Slices
import Derived.Deep.Fields
import Derived.ChangeSame
import Derived.SizedLaws
namespace Go.Proofs.YtlpdeadmiinhoaaGreatDoor
open Go.RowKit Go.ChangeShapes Go.WideShapes Go.Deep

section
variable {H : Type} {enc : TypeId × Value → H} {w : World}

theorem wts_slice {t e : TypeId} {a b : List (DataW H)} (ht : Tryz.prog.underlying t = some (.slice e)) (h : ((DataW.slice a b).weights Tryz.prog t).all (· ≤ reachBytes) = true) :
    (a.length + b.length) * Tryz.prog.bytesOf e ≤ reachBytes ∧ (DataW.weightsAll Tryz.prog e a).all (· ≤ reachBytes) = true := by
  unfold DataW.weights at h
  rw [ht] at h
  simp only [List.all_cons, List.all_append, Bool.and_eq_true, decide_eq_true_eq] at h
  exact ⟨h.1, h.2.1⟩

theorem int_wf {n : Int} (h : (Lit.int .i64 n).wf = true) : I64 n := by
  simp [Lit.wf, IntKind.min, IntKind.max, IntKind.bits, IntKind.signed] at h
  unfold I64
  omega

theorem ints_of {fuel : Nat} {v : Value} {x : DataW H × List MemPlace} (h : DataW.trod enc Tryz.prog w 0 (fun _ => true) true fuel 22 [v] = some x) (hs : (x.1.weights Tryz.prog 22).all (· ≤ reachBytes) = true) :
    ∃ (ka : Option Addr) (kc : Nat) (keys : List Int), v = .slice ka keys.length kc ∧ keys.length ≤ 17592186044416 ∧ IntsIn w ka keys ∧ keys.length ≤ kc := by
  rcases open_ints Tryz.underlying22 Tryz.underlying3 (by kernel_rfl) h with ⟨hv, _⟩ | ⟨a, len, cap, zs, hv, _, hl, _, hzl, hx, hc, hwf⟩
  · simp only [List.cons.injEq, and_true] at hv
    subst hv
    exact ⟨none, 0, [], rfl, by simp, (fun i hi => by simp at hi), Nat.le_refl _⟩
  · simp only [List.cons.injEq, and_true] at hv
    subst hv
    simp only [if_true] at hzl
    have hlen : (zs.take len).length = len := by rw [List.length_take]; omega
    have hsz : zs.length * 8 ≤ reachBytes := by
      rw [hx] at hs
      have h1 := (wts_slice Tryz.underlying22 hs).1
      simp only [lits, List.length_map, List.length_take, List.length_drop] at h1
      have h2 : Tryz.prog.bytesOf 3 = 8 := by kernel_rfl
      rw [h2] at h1
      rw [show min len zs.length + (zs.length - len) = zs.length by omega] at h1
      exact h1
    unfold reachBytes at hsz
    refine ⟨some a, cap, zs.take len, by rw [hlen], by omega, fun i hi => ?_, by omega⟩
    have hiz : i < zs.length := by omega
    have hci := hc i hiz
    obtain ⟨b, off, spot⟩ := a
    have hspot : spot = none := by simpa [Addr.add] using World.cell?_spot (hc 0 (by omega))
    subst hspot
    have hadd : (⟨b, off, none⟩ : Addr).add i = ⟨b, off + i, none⟩ := by unfold Addr.add; split <;> simp_all
    rw [hadd] at hci
    have hg : (zs.take len).getD i 0 = zs.getD i 0 := by
      simp [List.getD, List.getElem?_take, show i < len by omega]
    rw [hg]
    refine ⟨b, off, rfl, hci, int_wf (hwf _ ?_)⟩
    rw [show zs.getD i 0 = zs[i] by simp [List.getD, hiz]]
    exact List.getElem_mem hiz

set_option maxRecDepth 10000 in
theorem choice_of {fuel : Nat} {cs : List Value} {x : DataW H × List MemPlace} (h : DataW.trod enc Tryz.prog w 0 (fun _ => true) true fuel 24 cs = some x) (hs : (x.1.weights Tryz.prog 24).all (· ≤ reachBytes) = true) :
    ∃ c, ChIn w c (.agg cs.toArray) := by
  obtain ⟨ys, n, rfl, hx, hlen, hyl, hg⟩ := DataW.trod_struct Tryz.underlying24 h
  have hC : Tryz.prog.cellsOf 24 = 3 := by kernel_rfl
  have hc3 : Tryz.prog.cellsOf 3 = 1 := by kernel_rfl
  have hc22 : Tryz.prog.cellsOf 22 = 1 := by kernel_rfl
  rw [hC] at hlen
  match cs, hlen, ys, hyl with
  | [c0, c1, c2], _, [y0, y1, y2], _ =>
    have g0 : DataW.trod enc Tryz.prog w 0 (fun _ => true) true n 3 [c0] = some y0 := by simpa [hc3] using hg 0 _ rfl
    have g1 : DataW.trod enc Tryz.prog w 0 (fun _ => true) true n 3 [c1] = some y1 := by simpa [hc3] using hg 1 _ rfl
    have g2 : DataW.trod enc Tryz.prog w 0 (fun _ => true) true n 22 [c2] = some y2 := by simpa [hc22] using hg 2 _ rfl
    obtain ⟨n0, e0, f0, w0⟩ := DataW.trod_int Tryz.underlying3 g0
    obtain ⟨n1, e1, f1, w1⟩ := DataW.trod_int Tryz.underlying3 g1
    simp only [List.cons.injEq, and_true] at e0 e1
    subst e0; subst e1
    rw [hx] at hs
    unfold DataW.weights at hs
    rw [Tryz.underlying24] at hs
    simp only [List.map_cons, List.map_nil, DataW.weightsEach, List.append_nil, List.all_append, Bool.and_eq_true] at hs
    obtain ⟨_, _, hs2⟩ := hs
    obtain ⟨ka, kc, keys, rfl, hkl, hkeys, hcap⟩ := ints_of g2 hs2
    exact ⟨⟨n0, n1, keys⟩, ka, kc, rfl, int_wf w0, int_wf w1, hkl, hkeys, hcap⟩

set_option maxRecDepth 20000 in
theorem choice_arg {base : Nat} {r : Reach} {v : Value} {d : DataW H} {p : List MemPlace} (hv : Value.okWide Tryz.prog w r base 24 v) (h : DataW.Trod enc Tryz.prog w 0 (fun _ => true) true 24 v d p)
    (hs : (d.weights Tryz.prog 24).all (· ≤ reachBytes) = true) : ∃ c, ChIn w c v := by
  obtain ⟨cs, rfl, _⟩ := okWide_struct Tryz.underlying24 hv
  obtain ⟨fuel, hf⟩ := h
  obtain ⟨t, ht⟩ := choice_of (cs := cs.toList) hf hs
  rw [show cs.toList.toArray = cs from by simp] at ht
  exact ⟨t, ht⟩
end
end Go.Proofs.YtlpdeadmiinhoaaGreatDoor
