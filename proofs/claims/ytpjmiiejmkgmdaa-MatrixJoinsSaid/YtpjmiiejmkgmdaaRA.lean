/- MatrixJoins: one matrix behind the other; its sums. -/
import Derived.Test.YtpjmiiejmkgmdaaLE
import Derived.Test.YtpjmiiejmkgmdaaHC
namespace Go.Proofs.Ytpjmiiejmkgmdaa
open Go.RowKit

/-- One matrix behind the other: s behind a. -/
def joinM (a s : List (List Int)) : List (List Int) := tabM s.length (cols a) fun i x => clipI 655360 (dotTo (s.getD i []) a x (s.getD i []).length)
def joinE (a s : List (List Int)) : Int := if validM a && validM s then (if a.length = cols s then 0 else 11) else 1
def joinR (a s : List (List Int)) : List (List Int) := if joinE a s = 0 then joinM a s else []
theorem joinE_zero {a s : List (List Int)} (h : joinE a s = 0) : validM a = true ∧ validM s = true ∧ a.length = cols s := by
  unfold joinE at h
  split at h
  · rename_i hv
    rw [Bool.and_eq_true] at hv
    split at h
    · rename_i e; exact ⟨hv.1, hv.2, e⟩
    · cases h
  · cases h

/-- A sum. -/
def sm (n : Nat) (F : Nat → Int) : Int := ((List.range n).map F).sum
theorem sm_succ (n : Nat) (F : Nat → Int) : sm (n + 1) F = sm n F + F n := by simp [sm, List.range_succ]
theorem sm_zero (F : Nat → Int) : sm 0 F = 0 := by simp [sm]
theorem sm_congr {F G : Nat → Int} : ∀ {n : Nat}, (∀ x, x < n → F x = G x) → sm n F = sm n G
  | 0, _ => by rw [sm_zero, sm_zero]
  | n + 1, h => by rw [sm_succ, sm_succ, sm_congr (fun x hx => h x (by omega)), h n (by omega)]
theorem sm_add (F G : Nat → Int) : ∀ n, sm n (fun x => F x + G x) = sm n F + sm n G
  | 0 => by simp [sm_zero]
  | n + 1 => by rw [sm_succ, sm_succ, sm_succ, sm_add F G n]; omega
theorem sm_mul (c : Int) (F : Nat → Int) : ∀ n, sm n (fun x => c * F x) = c * sm n F
  | 0 => by simp [sm_zero]
  | n + 1 => by rw [sm_succ, sm_succ, sm_mul c F n, Int.mul_add]
theorem sm_none {F : Nat → Int} {n : Nat} (h : ∀ x, x < n → F x = 0) : sm n F = 0 := by
  rw [sm_congr (G := fun _ => 0) h]
  induction n with
  | zero => exact sm_zero _
  | succ n ih => rw [sm_succ, ih (fun x hx => h x (by omega))]; rfl
theorem sm_one {F : Nat → Int} {k : Nat} : ∀ {n : Nat}, k < n → (∀ x, x < n → x ≠ k → F x = 0) → sm n F = F k
  | 0, hk, _ => absurd hk (Nat.not_lt_zero _)
  | n + 1, hk, h => by
    rw [sm_succ]
    by_cases e : k = n
    · subst e
      rw [sm_none (fun x hx => h x (by omega) (by omega))]; omega
    · rw [sm_one (by omega) (fun x hx hne => h x (by omega) hne), h n (by omega) (by omega)]; omega
theorem sm_swap (g : Nat → Int) (A : Nat → Nat → Int) (b : Nat → Int) (p : Nat) : ∀ n, sm n (fun j => g j * sm p (fun x => A j x * b x)) = sm p (fun x => sm n (fun j => g j * A j x) * b x)
  | 0 => by
    rw [sm_zero]
    exact (sm_none fun x _ => by rw [sm_zero]; simp).symm
  | n + 1 => by
    rw [sm_succ, sm_swap g A b p n, ← sm_mul, ← sm_add]
    refine sm_congr fun x _ => ?_
    rw [sm_succ, Int.add_mul, Int.mul_assoc]

theorem clip_exact {K x : Int} (hx : -K ≤ x ∧ x ≤ K) : clipI K (65536 * x) = x := by
  have : roundI (65536 * x) = x := by unfold roundI; split <;> omega
  unfold clipI
  rw [this]; omega
theorem clip_nought {K : Int} (h : 0 ≤ K) : clipI K 0 = 0 := clip_exact (x := 0) (by omega)

/-- Weights of which at most one is not nothing, and that is One. -/
def Lone (n : Nat) (g : Nat → Int) : Prop := ∀ x, x < n → g x ≠ 0 → g x = 65536 ∧ ∀ y, y < n → y ≠ x → g y = 0
theorem Lone.cases {n : Nat} {g : Nat → Int} (h : Lone n g) : (∀ x, x < n → g x = 0) ∨ ∃ k, k < n ∧ g k = 65536 ∧ ∀ y, y < n → y ≠ k → g y = 0 := by
  rcases Classical.em (∀ x, x < n → g x = 0) with e | e
  · exact .inl e
  · have : ∃ x, x < n ∧ g x ≠ 0 := by
      refine Classical.byContradiction fun hn => e fun x hx => Classical.byContradiction fun hne => hn ⟨x, hx, hne⟩
    obtain ⟨x, hx, hne⟩ := this
    exact .inr ⟨x, hx, h x hx hne⟩
theorem Lone.sum {n : Nat} {g : Nat → Int} (h : Lone n g) (H : Nat → Int) : sm n (fun x => g x * H x) = 0 ∨ ∃ k, k < n ∧ sm n (fun x => g x * H x) = 65536 * H k := by
  rcases h.cases with h | ⟨k, hk, h1, h2⟩
  · exact .inl (sm_none fun x hx => by rw [h x hx, Int.zero_mul])
  · exact .inr ⟨k, hk, by rw [sm_one hk (fun x hx hne => by rw [h2 x hx hne, Int.zero_mul]), h1]⟩
theorem Lone.clip {n : Nat} {g : Nat → Int} (h : Lone n g) {K : Int} (hK : 0 ≤ K) {H : Nat → Int} (hH : ∀ x, -K ≤ H x ∧ H x ≤ K) : 65536 * clipI K (sm n (fun x => g x * H x)) = sm n (fun x => g x * H x) := by
  rcases h.sum H with e | ⟨k, _, e⟩
  · rw [e, clip_nought hK]; rfl
  · rw [e, clip_exact (hH k)]

theorem tabM_at (F : Nat → Nat → Int) {r c i x : Nat} (hi : i < r) (hx : x < c) : ((tabM r c F).getD i []).getD x 0 = F i x := by
  rw [tabM_row F hi]; simp [List.getD, hx]
theorem cols_tab (F : Nat → Nat → Int) {r c : Nat} (hr : 1 ≤ r) : cols (tabM r c F) = c := by
  unfold cols; rw [tabM_row F (by omega)]; simp
theorem tab_ok {K : Int} {r c : Nat} {F : Nat → Nat → Int} (h : ∀ i x, -K ≤ F i x ∧ F i x ≤ K) : (tabM r c F).all (rowOk K c) = true := by
  simp [tabM, rowOk, within, inB, List.all_eq_true, h]
theorem ch_nat {n : Nat} (h1 : 1 ≤ n) (h2 : n ≤ 8) : chB (n : Int) = true := by simp [chB]; omega
theorem fr_nat {n : Nat} (h2 : n ≤ 4096) : frB (n : Int) = true := by simp [frB]; omega

theorem joinM_len (a s : List (List Int)) : (joinM a s).length = s.length := tabM_len _ _ _
theorem joinM_valid {a s : List (List Int)} (ha : validM a = true) (hs : validM s = true) : validM (joinM a s) = true ∧ cols (joinM a s) = cols a := by
  obtain ⟨a1, a2, _, _⟩ := validM_parts ha
  obtain ⟨s1, _, _, _⟩ := validM_parts hs
  have hc : cols (joinM a s) = cols a := cols_tab _ s1.1
  refine ⟨?_, hc⟩
  unfold validM
  rw [hc, joinM_len, ch_nat s1.1 s1.2, ch_nat a2.1 a2.2]
  exact tab_ok fun i x => clipI_bd (by omega) _
theorem applyM_valid {a b : List (List Int)} (ha : validM a = true) (hb : validB b = true) : validB (applyM a b) = true ∧ cols (applyM a b) = cols b ∧ (applyM a b).length = a.length := by
  obtain ⟨a1, _, _, _⟩ := validM_parts ha
  obtain ⟨_, b2, _, _⟩ := validB_parts hb
  have hc : cols (applyM a b) = cols b := cols_tab _ a1.1
  have hl : (applyM a b).length = a.length := tabM_len _ _ _
  refine ⟨?_, hc, hl⟩
  unfold validB
  rw [hc, hl, ch_nat a1.1 a1.2, fr_nat b2]
  exact tab_ok fun i x => clipI_bd (by omega) _

theorem joins_eq {a s b : List (List Int)} (ha : validM a = true) (hs : validM s = true) (hb : validB b = true) (h1 : a.length = cols s) (h2 : b.length = cols a) (hp : PlainP a ∨ PlainP s) :
    applyM s (applyM a b) = applyM (joinM a s) b := by
  obtain ⟨a1, a2, a3, a4⟩ := validM_parts ha
  obtain ⟨s1, s2, s3, s4⟩ := validM_parts hs
  obtain ⟨b1, b2, b3, b4⟩ := validB_parts hb
  obtain ⟨_, hcY, hlY⟩ := applyM_valid ha hb
  obtain ⟨_, hcJ⟩ := joinM_valid ha hs
  have key : ∀ i, i < s.length → ∀ f, f < cols b → clipI 8388607 (dotTo (s.getD i []) (applyM a b) f (s.getD i []).length) = clipI 8388607 (dotTo ((joinM a s).getD i []) b f ((joinM a s).getD i []).length) := by
    intro i hi f hf
    have hsl : (s.getD i []).length = a.length := by rw [s3 i hi, h1]
    have hjl : ((joinM a s).getD i []).length = cols a := by unfold joinM; rw [tabM_row _ hi]; simp
    rw [hsl, hjl]
    have eY : ∀ j, j < a.length → cellM (applyM a b) j f = clipI 8388607 (sm (cols a) fun x => wAt a j x * cellM b x f) := fun j hj => by
      unfold cellM applyM
      rw [tabM_at _ hj hf, a3 j hj]; rfl
    have eJ : ∀ x, x < cols a → ((joinM a s).getD i []).getD x 0 = clipI 655360 (sm a.length fun j => wAt s i j * wAt a j x) := fun x hx => by
      unfold joinM
      rw [tabM_at _ hi hx, hsl]; rfl
    have d1 : dotTo (s.getD i []) (applyM a b) f a.length = sm a.length fun j => wAt s i j * clipI 8388607 (sm (cols a) fun x => wAt a j x * cellM b x f) := by
      show sm a.length (fun j => wAt s i j * cellM (applyM a b) j f) = _
      exact sm_congr fun j hj => by rw [eY j hj]
    have d2 : dotTo ((joinM a s).getD i []) b f (cols a) = sm (cols a) fun x => clipI 655360 (sm a.length fun j => wAt s i j * wAt a j x) * cellM b x f := by
      show sm (cols a) (fun x => ((joinM a s).getD i []).getD x 0 * cellM b x f) = _
      exact sm_congr fun x hx => by rw [eJ x hx]
    rw [d1, d2]
    have hB : ∀ x, -8388607 ≤ cellM b x f ∧ cellM b x f ≤ 8388607 := fun x => by have := b4 x f; unfold cellM; omega
    have hS : ∀ j, -655360 ≤ wAt s i j ∧ wAt s i j ≤ 655360 := fun j => by have := s4 i j; unfold wAt; omega
    have hA : ∀ j x, -655360 ≤ wAt a j x ∧ wAt a j x ≤ 655360 := fun j x => by have := a4 j x; unfold wAt; omega
    rcases hp with hp | hp
    · congr 1
      have rowL : ∀ j, j < a.length → Lone (cols a) (fun x => wAt a j x) := fun j hj x hx hne => ⟨(hp j x hj hx hne).1, fun y hy hne2 => (hp j x hj hx hne).2.1 y hy hne2⟩
      have colL : ∀ x, x < cols a → Lone a.length (fun j => wAt a j x) := fun x hx j hj hne => ⟨(hp j x hj hx hne).1, fun y hy hne2 => (hp j x hj hx hne).2.2 y hy hne2⟩
      have t1 : 65536 * (sm a.length fun j => wAt s i j * clipI 8388607 (sm (cols a) fun x => wAt a j x * cellM b x f)) = sm a.length fun j => wAt s i j * sm (cols a) fun x => wAt a j x * cellM b x f := by
        rw [← sm_mul]
        refine sm_congr fun j hj => ?_
        rw [← (rowL j hj).clip (by omega) hB, Int.mul_left_comm]
        congr 2
        rw [(rowL j hj).clip (by omega) hB]
      have t2 : 65536 * (sm (cols a) fun x => clipI 655360 (sm a.length fun j => wAt s i j * wAt a j x) * cellM b x f) = sm (cols a) fun x => (sm a.length fun j => wAt s i j * wAt a j x) * cellM b x f := by
        rw [← sm_mul]
        refine sm_congr fun x hx => ?_
        have e : (sm a.length fun j => wAt s i j * wAt a j x) = sm a.length fun j => wAt a j x * wAt s i j := sm_congr fun j _ => Int.mul_comm _ _
        have k := (colL x hx).clip (K := 655360) (by omega) hS
        rw [e, ← Int.mul_assoc, k]
      rw [sm_swap, ← t2] at t1
      omega
    · have rowL : Lone a.length (fun j => wAt s i j) := fun j hj hne => ⟨(hp i j hi (by omega) hne).1, fun y hy hne2 => (hp i j hi (by omega) hne).2.1 y (by omega) hne2⟩
      rcases rowL.cases with hz | ⟨k, hk, k1, k2⟩
      · rw [sm_none (fun j hj => by rw [hz j hj, Int.zero_mul])]
        rw [sm_none (fun x hx => by rw [sm_none (fun j hj => by rw [hz j hj, Int.zero_mul]), clip_nought (by omega), Int.zero_mul])]
      · rw [sm_one hk (fun j hj hne => by rw [k2 j hj hne, Int.zero_mul]), k1, clip_exact (clipI_bd (by omega) _)]
        congr 1
        refine sm_congr fun x hx => ?_
        rw [sm_one hk (fun j hj hne => by rw [k2 j hj hne, Int.zero_mul]), k1, clip_exact (hA k x)]
  unfold applyM
  rw [show cols (tabM a.length (cols b) fun i f => clipI 8388607 (dotTo (a.getD i []) b f (a.getD i []).length)) = cols b from hcY, joinM_len]
  apply mat_eq_of (by rw [tabM_len, tabM_len])
  intro i hi
  rw [tabM_len] at hi
  rw [tabM_row _ hi, tabM_row _ hi]
  refine List.map_congr_left fun f hf => ?_
  rw [List.mem_range] at hf
  exact key i hi f hf
end Go.Proofs.Ytpjmiiejmkgmdaa
