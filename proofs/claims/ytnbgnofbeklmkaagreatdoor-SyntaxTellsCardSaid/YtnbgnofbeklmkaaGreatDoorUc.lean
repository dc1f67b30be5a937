/- A printer of the call's own, what its put does, and how a column is printed: the walks. Conditions: lengths that every machine keeps. -/
import Derived.Test.YtnbgnofbeklmkaaGreatDoorTf
import Derived.Test.YtnbgnofbeklmkaaGreatDoorUa
namespace Go.Proofs.YtnbgnofbeklmkaaGreatDoor
open Go.RowKit
set_option linter.unusedSimpArgs false
set_option linter.unusedVariables false

theorem blk_lt {w : World} {g : Nat} {o : Obj} (h : w.heap[g]? = some o) : g < w.heap.size := by
  rcases Nat.lt_or_ge g w.heap.size with h' | h'
  · exact h'
  · rw [Array.getElem?_eq_none h'] at h; cases h
/-- The printer in block b, of a call that began at B, has put the text l. -/
def Pr (B b : Nat) (l : List UInt8) (w : World) : Prop := Lib.IsBuilderF 66 5 B b (Lib.byteCells l) w
/-- What has put a text and nothing more. -/
def Put (B b : Nat) (l : List UInt8) (w w' : World) : Prop := Pr B b l w' ∧ Below B w w' ∧ Lib.OthersKept 5 (some b) w w'
theorem bytes_app (l m : List UInt8) : Lib.byteCells (l ++ m) = Lib.byteCells l ++ Lib.byteCells m := by simp [Lib.byteCells]
theorem Pr.lt {B b : Nat} {l : List UInt8} {w : World} (h : Pr B b l w) : b < w.heap.size := by
  rcases h with h | h <;> exact h.lt
theorem Pr.le {B b : Nat} {l : List UInt8} {w : World} (h : Pr B b l w) : B ≤ b := by
  rcases h with h | h <;> exact h.1
theorem Pr.alloc {B b : Nat} {l : List UInt8} {w : World} (h : Pr B b l w) (o : Obj) : Pr B b l (w.alloc o) := Lib.IsBuilderF.alloc h o
theorem bat_below {T e : TypeId} {B b : Nat} {p : Value} {bs : List Value} {W W' : World} (h : Lib.BuilderAtF T e B b p bs W) (hb : Below W.heap.size W W') : Lib.BuilderAtF T e B b p bs W' := by
  obtain ⟨hB, v, hbk, hown, hne⟩ := h
  have hlt : b < W.heap.size := by
    rcases Nat.lt_or_ge b W.heap.size with h' | h'
    · exact h'
    · simp [Array.getElem?_eq_none h'] at hbk
  refine ⟨hB, v, (hb.block b hlt).trans hbk, ⟨hown.1, ?_⟩, hne⟩
  rcases hown.2 with hn | ⟨g, cap, cur, fz, hv, hbg, hg, rest⟩
  · exact .inl hn
  · have hgl : g < W.heap.size := by
      rcases Nat.lt_or_ge g W.heap.size with h' | h'
      · exact h'
      · simp [Array.getElem?_eq_none h'] at hg
    exact .inr ⟨g, cap, cur, fz, hv, hbg, (hb.block g hgl).trans hg, rest⟩
theorem Pr.below {B b : Nat} {l : List UInt8} {w w' : World} (h : Pr B b l w) (hb : Below w.heap.size w w') : Pr B b l w' := by
  rcases h with h | h
  · exact .inl (bat_below h hb)
  · exact .inr (bat_below h hb)
theorem others_below {e : TypeId} {b : Option Nat} {w w' : World} (hb : Below w.heap.size w w') : Lib.OthersKept e b w w' := fun k o hk _ _ => (hb.block k (blk_lt hk)).trans hk
theorem Put.refl {B b : Nat} {l : List UInt8} {w : World} (h : Pr B b l w) : Put B b l w w := ⟨h, Below.refl _ _, Lib.OthersKept.refl _ _ _⟩
theorem Put.trans {B b : Nat} {l m : List UInt8} {w w1 w2 : World} (h : Put B b l w w1) (k : Put B b m w1 w2) : Put B b m w w2 := ⟨k.1, h.2.1.trans k.2.1, h.2.2.trans k.2.2⟩
theorem Put.below {B b : Nat} {l : List UInt8} {w w1 w2 : World} (h : Put B b l w w1) (hB : B ≤ w1.heap.size) (hb : Below w1.heap.size w1 w2) : Put B b l w w2 := ⟨h.1.below hb, h.2.1.trans (hb.mono hB), h.2.2.trans (others_below hb)⟩
theorem Put.ahead {B b : Nat} {l : List UInt8} {w w1 w2 : World} (hB : B ≤ w.heap.size) (hb : Below w.heap.size w w1) (h : Put B b l w1 w2) : Put B b l w w2 := ⟨h.1, (hb.mono hB).trans h.2.1, (others_below hb).trans h.2.2⟩
theorem Put.size {B b : Nat} {l : List UInt8} {w w1 : World} (h : Put B b l w w1) : w.heap.size ≤ w1.heap.size := h.2.1.size
/-- A block that holds no octets lies as it lay. -/
theorem Put.keeps {B b g : Nat} {l : List UInt8} {w w1 : World} {cs : Array Value} {T : TypeId} {fz : Nat × Nat} (h : Put B b l w w1) (ho : w.heap[g]? = some (.cells cs T fz)) (hT : T ≠ 5) (hg : g ≠ b) : w1.heap[g]? = some (.cells cs T fz) :=
  h.2.2 g _ ho (fun e => hg (by injection e)) (fun c f e => by injection e with _ e; exact hT e)

def cat (ss : List ByteArray) : List UInt8 := ss.flatMap fun s => s.data.toList
theorem cat_take {ss : List ByteArray} {j : Nat} {s : ByteArray} (h : ss[j]? = some s) : cat (ss.take (j + 1)) = cat (ss.take j) ++ s.data.toList := by
  rw [List.take_add_one, h]; simp [cat]
theorem cat_le (ss : List ByteArray) (j : Nat) : (cat (ss.take j)).length ≤ (cat ss).length := by
  have h : cat ss = cat (ss.take j) ++ cat (ss.drop j) := by
    unfold cat
    rw [← List.flatMap_append, List.take_append_drop]
  rw [h, List.length_append]; omega

set_option maxHeartbeats 2000000 in
theorem put_any (B b : Nat) (l : List UInt8) (ss : List ByteArray) (ad : Addr) (cs : Array Value) (T : TypeId) (fz : Nat × Nat) (w : World) (hp : Pr B b l w) (hB : B ≤ w.heap.size) (hh : w.heap[ad.block]? = some (.cells cs T fz)) (hT : T ≠ 5) (hne : ad.block ≠ b)
    (hc : ∀ (j : Nat) (s : ByteArray), ss[j]? = some s → w.cell? (ad.add j) = some (.string s)) (hlen : l.length + (cat ss).length ≤ 140737488355328) (hn : ss.length ≤ 9223372036854775807) :
    Calls Tryz.prog 69 #[.pointer (some ⟨b, 0, none⟩), .slice (some ad) ss.length ss.length] w fun e w' => e = .returned (.tuple #[]) ∧ Put B b (l ++ cat ss) w w' := by
  have HC := Lib.hid hc
  have HH := Lib.hid hh
  have HT := Lib.hid hT
  have HP := Lib.hid hp
  have HL := Lib.hid hlen
  clear hc hh hp hlen
  go_enter Tryz.func69, Tryz.ntmps69
  go_wp2_with fail
  go_loopw [8] (fun i wr => ∃ j : Nat, j ≤ ss.length ∧ i = .int .i64 j ∧ Put B b (l ++ cat (ss.take j)) w wr) (fun i _ => ss.length - (intOf i).toNat)
  case atStart => exact ⟨0, by omega, rfl, by simpa [cat] using Put.refl HP.out⟩
  case round =>
    obtain ⟨j, hj, rfl, hput⟩ := hrel
    have HU := Lib.hid hput
    clear hput
    by_cases hlt : j < ss.length
    · have hs : ss[j]? = some ss[j] := List.getElem?_eq_getElem hlt
      generalize ss[j] = s at hs
      have c0 : wr.cell? (ad.add j) = some (.string s) := (cell_of_heap (w := w) (w' := wr) (p := ad.add j) (by rw [add_block, HU.out.keeps HH.out HT.out hne, HH.out])).trans (HC.out j s hs)
      have hk := cat_take hs
      have hl2 := cat_le ss (j + 1)
      rw [hk, List.length_append] at hl2
      have hW := writeString_any BT_p B b (Lib.byteCells (l ++ cat (ss.take j))) s wr HU.out.1 (by have := HL.out; rw [Lib.byteCells_length, List.length_append]; rw [bsz] at hl2; omega) (Nat.le_trans hB HU.out.size)
      have HW := Lib.hid hW
      have HK := Lib.hid hk
      clear hW hk hl2
      go_wp2_with (go_at_call 125; refine HW.out.mono ?_; rintro e w2 ⟨rfl, h1, h2, h3⟩; have HN : Hid (Put B b (l ++ cat (ss.take (j + 1))) w w2) := (by rw [HK.out, ← List.append_assoc]; exact ⟨.inr (by rw [bytes_app]; exact h1), HU.out.2.1.trans h2, HU.out.2.2.trans h3⟩); clear h1 h2 h3)
      go_roundw
      case rel => exact ⟨j + 1, by omega, by go_num, HN.out⟩
      case measure => simp [intOf]; omega
    · have HE : Hid (ss.take j = ss) := Lib.hid (List.take_of_length_le (by omega))
      go_wp2
      go_end0
      exact ⟨rfl, by have h := HU.out; rwa [HE.out] at h⟩
theorem putL_any (B b : Nat) (l : List UInt8) (ss : List ByteArray) (g : Nat) (w : World) (hg : g = w.heap.size) (hp : Pr B b l w) (hB : B ≤ w.heap.size) (hlen : l.length + (cat ss).length ≤ 140737488355328) (hn : ss.length ≤ 9223372036854775807) :
    Calls Tryz.prog 69 #[.pointer (some ⟨b, 0, none⟩), .slice (some ⟨g, 0, none⟩) ss.length ss.length] (w.alloc (.cells (ss.map Value.string).toArray 9)) fun e w' => e = .returned (.tuple #[]) ∧ Put B b (l ++ cat ss) w w' := by
  subst hg
  refine (put_any B b l ss ⟨w.heap.size, 0, none⟩ (ss.map Value.string).toArray 9 (0, 0) (w.alloc (.cells (ss.map Value.string).toArray 9)) (hp.alloc _) (by simp; omega) (heap_alloc_new w _) (by decide) (by have := hp.lt; show w.heap.size ≠ b; omega) (fun j s hj => ?_) hlen hn).mono ?_
  · exact new_cells w 9 (ss.map Value.string) j (.string s) (by rw [List.getElem?_map, hj]; rfl)
  · rintro e w' ⟨rfl, h⟩
    exact ⟨rfl, Put.ahead hB (below1 _ _) h⟩
theorem put1 (B b : Nat) (l : List UInt8) (s : ByteArray) (g : Nat) (w : World) (hg : g = w.heap.size) (hp : Pr B b l w) (hB : B ≤ w.heap.size) (hlen : l.length + s.size ≤ 140737488355328) :
    Calls Tryz.prog 69 #[.pointer (some ⟨b, 0, none⟩), .slice (some ⟨g, 0, none⟩) 1 1] (w.alloc (.cells #[.string s] 9)) fun e w' => e = .returned (.tuple #[]) ∧ Put B b (l ++ s.data.toList) w w' := by
  have h := putL_any B b l [s] g w hg hp hB (by simpa [cat] using hlen) (by simp)
  simpa [cat] using h
theorem put2 (B b : Nat) (l : List UInt8) (s t : ByteArray) (g : Nat) (w : World) (hg : g = w.heap.size) (hp : Pr B b l w) (hB : B ≤ w.heap.size) (hlen : l.length + (s.size + t.size) ≤ 140737488355328) :
    Calls Tryz.prog 69 #[.pointer (some ⟨b, 0, none⟩), .slice (some ⟨g, 0, none⟩) 2 2] (w.alloc (.cells #[.string s, .string t] 9)) fun e w' => e = .returned (.tuple #[]) ∧ Put B b (l ++ (s.data.toList ++ t.data.toList)) w w' := by
  have h := putL_any B b l [s, t] g w hg hp hB (by simpa [cat] using hlen) (by simp)
  simpa [cat] using h
theorem put3 (B b : Nat) (l : List UInt8) (s t u : ByteArray) (g : Nat) (w : World) (hg : g = w.heap.size) (hp : Pr B b l w) (hB : B ≤ w.heap.size) (hlen : l.length + (s.size + (t.size + u.size)) ≤ 140737488355328) :
    Calls Tryz.prog 69 #[.pointer (some ⟨b, 0, none⟩), .slice (some ⟨g, 0, none⟩) 3 3] (w.alloc (.cells #[.string s, .string t, .string u] 9)) fun e w' => e = .returned (.tuple #[]) ∧ Put B b (l ++ (s.data.toList ++ (t.data.toList ++ u.data.toList))) w w' := by
  have h := putL_any B b l [s, t, u] g w hg hp hB (by simpa [cat] using hlen) (by simp)
  simpa [cat] using h
end Go.Proofs.YtnbgnofbeklmkaaGreatDoor
