/- What is kept while memory is laid; memory of the call's own. Conditions: none. -/
import Derived.Test.YtipcacplphidhaaGreatJr
import Derived.Test.YtipcacplphidhaaGreatSh
import Derived.Lib.OwnKind
namespace Go.Proofs.YtipcacplphidhaaGreat
open Go.RowKit Go.Sort Go.Maps
set_option linter.unusedSimpArgs false
set_option linter.unusedVariables false

/-- How a table lies in memory. -/
structure RdT (w : World) (t : Tb) (cA iA : Option Addr) : Prop where
  c : RdC w cA t.cols
  x : RdX w iA t.idx
  n : t.cols.length ≤ 9223372036854775807
theorem RdT.below {w w' : World} {t : Tb} {cA iA : Option Addr} (h : RdT w t cA iA) (hb : Below w.heap.size w w') : RdT w' t cA iA := ⟨h.c.below hb, h.x.below hb, h.n⟩
theorem thn {a b c : World} (h : Below a.heap.size a b) (k : Below b.heap.size b c) : Below a.heap.size a c := h.trans (k.mono h.size)
theorem RdC.setCells {w : World} {A : Option Addr} {l : List Cl} (h : RdC w A l) (b o : Nat) (vs : List Value) (hb : ∀ ad, A = some ad → ad.block ≠ b) : RdC (w.setCells b o vs) A l := fun hl => by
  obtain ⟨ad, e, hc⟩ := h hl
  have hne := hb ad e
  exact ⟨ad, e, fun j x hj => by
    obtain ⟨h0, h1, h2⟩ := hc j x hj
    refine ⟨(World.cell?_setCells_out b vs o w _ (fun e' _ => absurd e' ?_)).trans h0, (World.cell?_setCells_out b vs o w _ (fun e' _ => absurd e' ?_)).trans h1, (World.cell?_setCells_out b vs o w _ (fun e' _ => absurd e' ?_)).trans h2⟩ <;> simpa [add_block] using hne⟩
/-- What is kept while the rows are laid. -/
abbrev KeepT (w1 : World) (g : Nat) (m : ByteArray) (cA : Option Addr) (cn cc : Nat) (k : Int) (iA : Option Addr) (in_ ic : Nat) (W : World) : Prop :=
  W.cell? ⟨g, 0, none⟩ = some (.string m) ∧ W.cell? ⟨g, 1, none⟩ = some (.slice cA cn cc) ∧ W.cell? ⟨g, 2, none⟩ = some (.int .i64 k) ∧ W.cell? ⟨g, 3, none⟩ = some (.slice iA in_ ic) ∧ Below w1.heap.size w1 W
theorem KeepT.below {w1 W W' : World} {g : Nat} {m : ByteArray} {cA : Option Addr} {cn cc : Nat} {k : Int} {iA : Option Addr} {in_ ic : Nat} (h : KeepT w1 g m cA cn cc k iA in_ ic W) (hb : Below W.heap.size W W') : KeepT w1 g m cA cn cc k iA in_ ic W' := by
  obtain ⟨h0, h1, h2, h3, h4⟩ := h
  have hk := Kp.of_below hb
  exact ⟨hk _ _ h0, hk _ _ h1, hk _ _ h2, hk _ _ h3, h4.trans (hb.mono h4.size)⟩
theorem KeepT.drew {w1 W : World} {g : Nat} {m : ByteArray} {cA : Option Addr} {cn cc : Nat} {k : Int} {iA : Option Addr} {in_ ic : Nat} (h : KeepT w1 g m cA cn cc k iA in_ ic W) : KeepT w1 g m cA cn cc k iA in_ ic W.drew := ⟨h.1, h.2.1, h.2.2.1, h.2.2.2.1, h.2.2.2.2.drew⟩
theorem KeepT.alloc {w1 W : World} {g : Nat} {m : ByteArray} {cA : Option Addr} {cn cc : Nat} {k : Int} {iA : Option Addr} {in_ ic : Nat} (h : KeepT w1 g m cA cn cc k iA in_ ic W) (o : Obj) : KeepT w1 g m cA cn cc k iA in_ ic (W.alloc o) := h.below (below1 W o)
theorem own_below {B : Nat} {e : TypeId} {k : Nat} {v : Value} {n : Nat} {xs : List Value} {w w' : World} (h : w.ownsRow B e k v n xs) (hb : Below w.heap.size w w') : w'.ownsRow B e k v n xs :=
  ⟨h.1, by
    rcases h.2 with h1 | ⟨g, cap, cur, h1, h2, h3, h4⟩
    · exact .inl h1
    · exact .inr ⟨g, cap, cur, h1, h2, by rw [hb.block g (Array.getElem?_eq_some_iff.1 h3).1]; exact h3, h4⟩⟩
theorem own_le {B B' : Nat} {e : TypeId} {k : Nat} {v : Value} {n : Nat} {xs : List Value} {w : World} (h : w.ownsRow B e k v n xs) (hB : B' ≤ B) : w.ownsRow B' e k v n xs :=
  ⟨h.1, by
    rcases h.2 with h1 | ⟨g, cap, cur, h1, h2, h3⟩
    · exact .inl h1
    · exact .inr ⟨g, cap, cur, h1, by omega, h3⟩⟩
set_option maxHeartbeats 400000 in
theorem sClone_any (s : ByteArray) (w : World) (hs : s.size ≤ 140737488355328) :
    Calls Tryz.prog 34 #[.string s] w fun e w' => e = .returned (.string s) ∧ Below w.heap.size w w' := by
  have h := Tryz.stringslite_Clone s w (by omega)
  go_enter Tryz.func34, Tryz.ntmps34
  go_wp2_with (go_at_call 53; refine h.mono ?_; rintro e w1 ⟨rfl, hb⟩)
  go_ret
  exact ⟨rfl, hb⟩
end Go.Proofs.YtipcacplphidhaaGreat
