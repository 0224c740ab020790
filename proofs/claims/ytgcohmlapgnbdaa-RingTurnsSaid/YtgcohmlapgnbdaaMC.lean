/- An argument that reads as a list of passes is one. -/
import Derived.Test.YtgcohmlapgnbdaaMA
import Derived.Test.YtgcohmlapgnbdaaUA
namespace Go.Proofs.Ytgcohmlapgnbdaa
open Go.RowKit Go.ChangeShapes Go.WideShapes Go.Deep

section
variable {H : Type} {enc : TypeId × Value → H} {w : World}
theorem Try.underlying54w : Try.prog.underlying 54 = some (.slice 118) := by kernel_rfl
instance : Inhabited Pass := ⟨Pass.zero⟩
theorem Try.pass118 : ∃ f0 f1 f2, Try.prog.underlying 118 = some (.struct #[f0, f1, f2]) ∧ f0.offset = 0 ∧ f1.offset = 1 ∧ f2.offset = 2 ∧ f0.type = 3 ∧ f1.type = 3 ∧ f2.type = 3 := by
  have hk : (match Try.prog.underlying 118 with | some (.struct fs) => fs.toList.map (fun f => (f.offset, f.type)) | _ => []) = [(0, 3), (1, 3), (2, 3)] := by kernel_rfl
  cases h : Try.prog.underlying 118 with
  | none => rw [h] at hk; cases hk
  | some d =>
    rw [h] at hk
    cases d with
    | struct fs =>
      obtain ⟨l⟩ := fs
      have hk2 : l.map (fun f => (f.offset, f.type)) = [(0, 3), (1, 3), (2, 3)] := hk
      clear hk
      rcases l with _ | ⟨f0, _ | ⟨f1, _ | ⟨f2, _ | ⟨f3, r⟩⟩⟩⟩
      · simp at hk2
      · simp at hk2
      · simp at hk2
      · simp only [List.map_cons, List.map_nil, List.cons.injEq, Prod.mk.injEq, and_true] at hk2
        exact ⟨f0, f1, f2, rfl, hk2.1.1, hk2.2.1.1, hk2.2.2.1, hk2.1.2, hk2.2.1.2, hk2.2.2.2⟩
      · simp at hk2
    | _ => cases hk
set_option maxRecDepth 20000 in
theorem pass_of {t : TypeId} {fuel : Nat} {v : Value} {x : DataW H × List MemPlace} (ht : Try.prog.underlying t = some (.slice 118)) (h : DataW.trod enc Try.prog w 0 (fun _ => true) true fuel t [v] = some x) (hs : (x.1.weights Try.prog t).all (· ≤ reachBytes) = true) :
    ∃ l, PassIn w l v := by
  have hb : Try.prog.bytesOf 118 = 24 := by kernel_rfl
  have ce : Try.prog.cellsOf 118 = 3 := by kernel_rfl
  have c3 : Try.prog.cellsOf 3 = 1 := by kernel_rfl
  obtain ⟨g0, g1, g2, he, o0, o1, o2, t0, t1, t2⟩ := Try.pass118
  rcases open_slice ht h with ⟨hv, _⟩ | ⟨a, len, cap, m, n, D, Pl, hv, _, hl, hm, hmm, hx, hel⟩
  · simp only [List.cons.injEq, and_true] at hv
    subst hv
    exact ⟨[], none, 0, rfl, fun i hi => by simp at hi, by simp, Nat.le_refl _⟩
  · simp only [List.cons.injEq, and_true] at hv
    subst hv
    rw [hx] at hs
    obtain ⟨h1, _⟩ := wts_slice ht hs
    rw [hb] at h1
    simp only [List.length_map, List.length_range] at h1
    unfold reachBytes at h1
    simp only [if_true] at hmm
    have each : ∀ i, i < len → ∃ p : Pass, w.cell? (a.add (i * 3)) = some (.int .i64 p.who) ∧ w.cell? (a.add (i * 3 + 1)) = some (.int .i64 p.kind) ∧ w.cell? (a.add (i * 3 + 2)) = some (.int .i64 p.n) := by
      intro i hi
      obtain ⟨cs', h1, h2⟩ := hel i (by omega)
      rw [ce] at h1
      obtain ⟨_, hlen, hcell⟩ := World.cells?_some h1
      obtain ⟨xs, k, hk, hxy, _, hxl, hf⟩ := DataW.trod_struct he h2
      match xs, hxl, cs', hlen with
      | [y0, y1, y2], _, [v0, v1, v2], _ =>
        have q0 := hf 0 g0 rfl
        have q1 := hf 1 g1 rfl
        have q2 := hf 2 g2 rfl
        simp [o0, o1, o2, t0, t1, t2, c3] at q0 q1 q2
        have e0 := hcell 0 (by omega)
        have e1 := hcell 1 (by omega)
        have e2 := hcell 2 (by omega)
        rw [add_add] at e0 e1 e2
        obtain ⟨n0, hn0, _, _⟩ := DataW.trod_int Try.underlying3 q0
        obtain ⟨n1, hn1, _, _⟩ := DataW.trod_int Try.underlying3 q1
        obtain ⟨n2, hn2, _, _⟩ := DataW.trod_int Try.underlying3 q2
        simp only [List.cons.injEq, and_true] at hn0 hn1 hn2
        subst hn0 hn1 hn2
        exact ⟨⟨n0, n1, n2⟩, by simpa using e0, by simpa using e1, by simpa using e2⟩
    obtain ⟨q, hq⟩ := choose_lt each
    refine ⟨(List.range len).map q, some a, cap, by simp, fun i hi => ?_, by simp; omega, by simpa using hl⟩
    simp only [List.length_map, List.length_range] at hi
    obtain ⟨r0, r1, r2⟩ := hq i hi
    have ha' : a = ⟨a.block, a.off, none⟩ := by
      have h0 := World.cell?_spot (hq 0 (by omega)).1
      obtain ⟨b, o, s⟩ := a
      simpa [Addr.add] using h0
    rw [ha', add_plain] at r0 r1 r2
    rw [show pAt ((List.range len).map q) i = q i by simp [pAt, List.getD, hi]]
    exact ⟨a.block, a.off, by rw [← ha'], r0, by rw [Nat.add_assoc]; exact r1, by rw [Nat.add_assoc]; exact r2⟩
set_option maxRecDepth 20000 in
theorem pass_arg {t : TypeId} {base : Nat} {r : Reach} {v : Value} {d : DataW H} {p : List MemPlace} (ht : Try.prog.underlying t = some (.slice 118)) (hv : Value.okWide Try.prog w r base t v) (h : DataW.Trod enc Try.prog w 0 (fun _ => true) true t v d p)
    (hs : (d.weights Try.prog t).all (· ≤ reachBytes) = true) : ∃ l, PassIn w l v := by
  obtain ⟨a, l, c, rfl⟩ := okWide_slice ht hv
  obtain ⟨fuel, hf⟩ := h
  exact pass_of ht hf hs
end
end Go.Proofs.Ytgcohmlapgnbdaa
