/- Join: the program's answer, whatever both matrices are. -/
import Derived.Test.YtpjmiiejmkgmdaaRE
namespace Go.Proofs.Ytpjmiiejmkgmdaa
open Go.RowKit Go.Deep

theorem join1_no (a s : List (List Int)) (va vs : Value) (Ba Bs : Nat) (w : World) (ha : MatIn w a va) (hs : MatIn w s vs) (hca : w.cell? ⟨Ba, 0, none⟩ = some va) (hcs : w.cell? ⟨Bs, 0, none⟩ = some vs) (hE : joinE a s ≠ 0) :
    Calls Try.prog 67 #[.pointer (some ⟨Ba, 0, none⟩), .pointer (some ⟨Bs, 0, none⟩)] w (Leaves96 (joinE a s) w) := by
  unfold joinE at *
  cases hva : validM a with
  | false => simpa [hva] using join1_noA a s va vs Ba Bs w ha hs hca hcs hva
  | true =>
    cases hvs : validM s with
    | false => simpa [hva, hvs] using join1_noS a s va vs Ba Bs w ha hs hca hcs hva hvs
    | true =>
      by_cases h : a.length = cols s
      · simp [hva, hvs, h] at hE
      · have h1 := (join1_va a s va vs Ba Bs w ha hs hca hcs hva hvs).mono (R' := Leaves96 11 w) fun e w' hh => by
          rcases hh with ⟨h2, _⟩ | ⟨_, h2⟩
          · exact absurd h2 h
          · exact h2
        simpa [hva, hvs, h] using h1
theorem join1_ok (a s : List (List Int)) (va vs : Value) (Ba Bs : Nat) (w : World) (ha : MatIn w a va) (hs : MatIn w s vs) (hca : w.cell? ⟨Ba, 0, none⟩ = some va) (hcs : w.cell? ⟨Bs, 0, none⟩ = some vs)
    (hva : validM a = true) (hvs : validM s = true) (hsz : a.length = cols s) :
    Calls Try.prog 67 #[.pointer (some ⟨Ba, 0, none⟩), .pointer (some ⟨Bs, 0, none⟩)] w (Gives (fun u w => MatIn w (joinM a s) u) w) :=
  (join1_va a s va vs Ba Bs w ha hs hca hcs hva hvs).mono fun e w' hh => by
    rcases hh with ⟨_, h2⟩ | ⟨h2, _⟩
    · exact h2
    · exact absurd hsz h2

set_option maxHeartbeats 4000000 in
set_option maxRecDepth 100000 in
/-- One matrix behind the other, whatever both are. -/
theorem join_any (m b : List (List Int)) (va vb : Value) (w : World) (ha : MatIn w m va) (hb : MatIn w b vb) : Calls Try.prog 37 #[va, vb] w (MatAns w (joinR m b) (joinE m b)) := by
  have hmf : ∀ (fn : Fn) (first cap : Array Value) (w : World), (Instr.makeFunc fn first cap).run Try.prog w = .ok (.func fn first cap) w := fun _ _ _ _ => rfl
  obtain ⟨a, ca, rfl, hin, _, _⟩ := id ha
  obtain ⟨b0, cb, rfl, hinb, _, _⟩ := id hb
  obtain ⟨X, hX⟩ : ∃ X, Obj.cells #[.slice a m.length ca] 24 = X := ⟨_, rfl⟩
  obtain ⟨Y, hY⟩ : ∃ Y, Obj.cells #[.slice b0 b.length cb] 24 = Y := ⟨_, rfl⟩
  have hS2 : Same w ((w.alloc X).alloc Y) := (Same.alloc w X).trans (by simp) (Same.alloc _ Y)
  have hS3 : ∀ Z, Same w (((w.alloc X).alloc Y).alloc Z) := fun Z => hS2.trans (by simp; omega) (Same.alloc _ Z)
  have hbel : Below w.heap.size w ((w.alloc X).alloc Y) := ((Below.refl _ w).alloc (Nat.le_refl _) _).alloc (by simp) _
  have cm : ∀ Z, (((w.alloc X).alloc Y).alloc Z).cell? ⟨w.heap.size, 0, none⟩ = some (.slice a m.length ca) := fun Z => by
    refine (Same.alloc _ Z).cell ((Same.alloc _ Y).cell ?_); rw [← hX]; simp [go_sem]
  have cbb : ∀ Z, (((w.alloc X).alloc Y).alloc Z).cell? ⟨w.heap.size + 1, 0, none⟩ = some (.slice b0 b.length cb) := fun Z => by
    refine (Same.alloc _ Z).cell ?_; rw [← hY]; simp [go_sem]
  have hcf := fun (cs : Array Value) (w : World) => enters_of Try.func67 (by kernel_rfl) rfl cs w
  by_cases hE : joinE m b = 0
  · obtain ⟨e1, e2, e3⟩ := joinE_zero hE
    have h41 := fitted41_ok 67 #[.pointer (some ⟨w.heap.size, 0, none⟩), .pointer (some ⟨w.heap.size + 1, 0, none⟩)] ((w.alloc X).alloc Y) (fun u w => MatIn w (joinM m b) u) (fun u w1 w2 hs hu => hu.mono hs) (hcf _)
      (join1_ok m b _ _ _ _ _ (ha.mono (hS3 _)) (hb.mono (hS3 _)) (cm _) (cbb _) e1 e2 e3)
    rw [show joinR m b = joinM m b by simp [joinR, hE], hE]
    subst hX hY
    have HBL := Lib.hid hbel
    clear hE e1 e2 e3 hin hinb ha hb hS2 hS3 hbel cm cbb hcf
    go_enter Try.func37, Try.ntmps37
    go_wp2_with (go_at_call 41; (with_reducible refine h41.mono ?_); rintro e w1 ⟨u, rfl, hu, hb1⟩; have HU := Lib.hid hu; clear hu)
    go_ret2
    exact ⟨_, rfl, HU.out, HBL.out.trans (hb1.mono HBL.out.size)⟩
  · have h41 := fitted41_no 67 #[.pointer (some ⟨w.heap.size, 0, none⟩), .pointer (some ⟨w.heap.size + 1, 0, none⟩)] (joinE m b) ((w.alloc X).alloc Y) (hcf _)
      (join1_no m b _ _ _ _ _ (ha.mono (hS3 _)) (hb.mono (hS3 _)) (cm _) (cbb _) hE)
    rw [show joinR m b = [] by simp [joinR, hE]]
    obtain ⟨E, hEE⟩ : ∃ E, joinE m b = E := ⟨_, rfl⟩
    rw [hEE] at h41 ⊢
    subst hX hY
    have HBL := Lib.hid hbel
    clear hE hEE hin hinb ha hb hS2 hS3 hbel cm cbb hcf
    go_enter Try.func37, Try.ntmps37
    go_wp2_with (go_at_call 41; (with_reducible refine h41.mono ?_); rintro e w1 ⟨rfl, hb1⟩)
    go_ret2
    exact ⟨_, rfl, mat_nil _, HBL.out.trans (hb1.mono HBL.out.size)⟩
end Go.Proofs.Ytpjmiiejmkgmdaa
