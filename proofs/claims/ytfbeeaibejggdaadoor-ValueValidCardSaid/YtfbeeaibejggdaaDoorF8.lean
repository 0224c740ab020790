import Derived.Test.YtfbeeaibejggdaaDoorF7
namespace Go.Proofs.YtfbeeaibejggdaaDoor
open Go.RowKit

/-- The table of the writer's bodies. -/
def tabF : Obj := .cells #[.nilFunc, .func (.func 50) #[] #[], .func (.func 51) #[] #[], .func (.func 53) #[] #[], .func (.func 54) #[] #[], .func (.func 54) #[] #[],
  .func (.func 55) #[] #[], .func (.func 55) #[] #[], .func (.func 56) #[] #[], .func (.func 57) #[] #[], .func (.func 58) #[] #[]] 76 (0, 0)

theorem bodyWriters_any (w : World) : Calls Tryd.prog 34 #[] w fun e w' => e = .returned (.slice (some ⟨w.heap.size, 0, none⟩) 11 11) ∧ w' = w.alloc tabF := by
  go_enter Tryd.func34, Tryd.ntmps34
  go_wp2
  go_ret
  exact ⟨rfl, rfl⟩

theorem own_len {w : World} {B e sz n : Nat} {v : Value} {xs : List Value} (h : w.ownsRow B e sz v n xs) : ∃ a c, v = .slice a n c := by
  rcases h.2 with ⟨h1, h2⟩ | ⟨g, cap, cur, hv, _⟩
  · subst h2; exact ⟨_, _, h1⟩
  · exact ⟨_, _, hv⟩

/-- What the writer does between a value's head and its end. -/
def bodyOut (kd n : Int) (s : ByteArray) (keys : List Int) (kids : List T) : List Int :=
  if kd = 2 then digs (IntKind.u64.wrap n) 4 else if kd = 3 then digs (IntKind.u64.wrap n) 8 else if kd = 4 then byt s else if kd = 5 then byt s
  else if kd = 6 then kidsOut kids else if kd = 7 then kidsOut kids else if kd = 8 then digs (IntKind.u64.wrap n) 8 ++ keyedOut keys kids kids.length
  else if kd = 9 then digs (IntKind.u64.wrap n) 8 ++ kidsOut kids else if kd = 10 then keyedOut keys kids kids.length else []
end Go.Proofs.YtfbeeaibejggdaaDoor
