/- A drawn region inside a round of a range over a function, where no operation defers: it is walked as one outside. Conditions: the round's post lets no want of room by. -/
import Derived.OrdersIn
import Derived.OwnWalkIn
import Derived.RangeFuncCalls
import Derived.Test.YtkpjkglheegmgaaQFe0
namespace Go.Proofs.Ytkpjkglheegmgaa
section
variable {P : Program} {ops : Array Oper} {md : Region.Mode} {Q : Exit → Act → World → Prop} {S : World → Prop} {hd : List Nat} {l n : Nat}

def calm (ops : Array Oper) : Prop := ∀ o ∈ ops.toList, ∀ d, o.op ≠ .defer d
theorem rowsIn_round {row : String} {args : Array Value} {w : World} {R : Value → World → Prop} (h : Rows P row args w R) : RowsIn (Fence.wide.inRound l) n P row args w R := fun c cs _ =>
  let ⟨v, w', r, s⟩ := h c cs
  ⟨v, w', r, by rw [fenced_inRound]; exact stepsIn_wide.2 s⟩
theorem wpIn_of_op {o : Oper} {a : Act} {w : World} {K : Act → World → Prop} (hd : ∀ d, o.op ≠ .defer d) (h : o.wp P a w K Q) : o.wpIn (Fence.wide.inRound l) n P a w K Q := by
  unfold Oper.wpIn
  refine ⟨fun _ _ => trivial, ?_⟩
  rw [Oper.semAt_plain _ _ _ hd]
  unfold Oper.wp at h
  generalize (execOp a.eval o).run P w = r at *
  cases r with
  | ok nx w' =>
    cases nx with
    | value v => exact h
    | skip => exact h
    | defer d => exact h
    | enter f args => exact ⟨fun e => (by cases e), CallsIn.inRound l (callsIn_wide.2 h)⟩
    | row row args => exact ⟨fun e => (by cases e), rowsIn_round h⟩
    | round l' f t c1 c2 => exact h.elim
    | _ => exact h.elim
  | halt x w' =>
    cases x with
    | panic v => exact h
    | _ => exact h.elim
theorem wpIn_of_any (hc : calm ops) (hQ : ¬ LetsOut Q) : ∀ (f : Nat) (li : Array Bool) (a : Act) (w : World), wpAny P md ops Q f li a w → wpAnyIn (Fence.wide.inRound l) n P md ops Q f li a w
  | 0, _, _, _, h => h
  | f + 1, li, a, w, h => ⟨h.1, fun i hi => by
    have h1 := h.2 i hi
    unfold wpOp at h1
    unfold wpOpIn
    cases ho : ops[i]? with
    | none => rw [ho] at h1; exact wpIn_of_any hc hQ f _ _ _ h1
    | some o =>
      rw [ho] at h1
      simp only at h1 ⊢
      split at h1
      · rename_i hw
        rw [if_pos hw]
        rcases h1 with h1 | ⟨_, h1⟩
        · exact Oper.wpIn_mono (fun a w h => wpIn_of_any hc hQ f _ a w h) (wpIn_of_op (hc o (by have := Array.mem_of_getElem? ho; simpa using this)) h1)
        · exact absurd h1 hQ
      · rename_i hw
        rw [if_neg hw]
        exact ⟨fun _ _ => trivial, wpIn_of_any hc hQ f _ _ _ h1⟩⟩
/-- The beginning, inside a round. -/
theorem region_anyTIn {id : Nat} {a : Act} {w : World} (S : World → Prop) (hd : List Nat) (hm : P.follows .mixedOrders = true) (hc : calm ops) (hQ : ¬ LetsOut Q) (hS : S w.drew)
    (h : Closed .any ops (Array.replicate ops.size false) → S w.drew → anyT P .any ops Q S hd ops.size (Array.replicate ops.size false) a w.drew) : (Code.region id ops true).wpIn (Fence.wide.inRound l) n P Q a w :=
  wpIn_region_any hm (wpIn_of_any hc hQ _ _ _ _ (any_of_T _ _ _ _ (h (fun j oj _ hl => (by rw [getD_replicate_false] at hl; cases hl)) hS)))
end
end Go.Proofs.Ytkpjkglheegmgaa
