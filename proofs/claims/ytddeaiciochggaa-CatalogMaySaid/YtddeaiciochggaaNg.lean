/- Where a column of a name stands, and whether a table has an index of one: the walks of slices.IndexFunc, slices.ContainsFunc, Column and hasIndex. Conditions: lists that are read in memory. -/
import Derived.Test.YtddeaiciochggaaNf
namespace Go.Proofs.Ytddeaiciochggaa
open Go.RowKit Go.Sort Go.Maps
set_option linter.unusedSimpArgs false
set_option linter.unusedVariables false

def isC (s : ByteArray) (x : Cl) : Bool := x.m.toList == s.toList
def isX (s : ByteArray) (x : Ix) : Bool := x.m.toList == s.toList
/-- The first place of a list at which p holds; -1 if there is none. -/
def fst1 {α : Type} (p : α → Bool) (l : List α) : Int := if l.any p = true then ((l.takeWhile fun x => !p x).length : Int) else -1
theorem fst1_no {α : Type} {p : α → Bool} {l : List α} (h : ∀ j (hj : j < l.length), p l[j] = false) : fst1 p l = -1 := by
  unfold fst1
  rw [if_neg]
  intro h2
  obtain ⟨x, hx, hp⟩ := List.any_eq_true.1 h2
  obtain ⟨j, hj, rfl⟩ := List.mem_iff_getElem.1 hx
  rw [h j hj] at hp; cases hp
theorem fst1_yes {α : Type} {p : α → Bool} {l : List α} {i : Nat} (hi : i < l.length) (h : ∀ j (hj : j < l.length), j < i → p l[j] = false) (hp : p l[i] = true) : fst1 p l = i := by
  unfold fst1
  rw [if_pos (List.any_eq_true.2 ⟨_, List.getElem_mem hi, hp⟩), takeWhile_len _ l i (by omega) (fun j hj hji => by rw [h j hj hji]; rfl) (fun _ => by rw [hp]; rfl)]
theorem any_first {α : Type} {p : α → Bool} : ∀ {l : List α}, l.any p = true → ∃ i, ∃ hi : i < l.length, p l[i] = true ∧ ∀ j (hj : j < l.length), j < i → p l[j] = false
  | [], h => by simp at h
  | a :: l, h => by
    cases ha : p a
    · have h2 : l.any p = true := by simpa [ha] using h
      obtain ⟨i, hi, hp, hn⟩ := any_first h2
      refine ⟨i + 1, by simp; omega, by simpa using hp, fun j hj hji => ?_⟩
      cases j with
      | zero => simpa using ha
      | succ j => simpa using hn j (by simp at hj; omega) (by omega)
    · exact ⟨0, by simp, by simpa using ha, fun j _ hj => by omega⟩
theorem fst1_get {α : Type} {p : α → Bool} {l : List α} (h : l.any p = true) : ∃ (i : Nat) (hi : i < l.length), fst1 p l = i ∧ p l[i] = true ∧ ∀ j (hj : j < l.length), j < i → p l[j] = false := by
  obtain ⟨i, hi, hp, hn⟩ := any_first h
  exact ⟨i, hi, fst1_yes hi hn hp, hp, hn⟩

set_option maxHeartbeats 1000000 in
theorem col1_any (x : Cl) (s : ByteArray) (b : Nat) (w : World) (hb : w.cell? ⟨b, 0, none⟩ = some (.string s)) :
    Calls Try.prog 51 #[x.val, .pointer (some ⟨b, 0, none⟩)] w fun e w' => e = .returned (.bool (isC s x)) ∧ Below w.heap.size w w' := by
  have HB := Lib.hid (below1 w (.cells #[.string x.m, .int .i64 x.k, .bool x.nn] 59))
  have hb2 := (HB.out.cell (p := ⟨b, 0, none⟩) (cell_lt hb)).trans hb
  clear hb
  go_enter Try.func51, Try.ntmps51
  go_wp2
  go_ret
  exact ⟨rfl, HB.out⟩
set_option maxRecDepth 100000 in
set_option maxHeartbeats 4000000 in
theorem idxC_any (A : Option Addr) (c : Nat) (l : List Cl) (s : ByteArray) (b : Nat) (w : World) (hr : RdC w A l) (hb : w.cell? ⟨b, 0, none⟩ = some (.string s)) (hn : l.length ≤ 9223372036854775807) :
    Calls Try.prog 50 #[.slice A l.length c, .func (.func 51) #[] #[.pointer (some ⟨b, 0, none⟩)]] w fun e w' => e = .returned (.int .i64 (fst1 (isC s) l)) ∧ Below w.heap.size w w' := by
  have HR := Lib.hid hr
  have HBX := Lib.hid hb
  clear hr hb
  go_enter Try.func50, Try.ntmps50
  go_wp2
  go_loopw [5, 8] (fun _ i wr => ∃ j : Nat, i = .int .i64 j ∧ j ≤ l.length ∧ (∀ k (hk : k < l.length), k < j → isC s l[k] = false) ∧ Below w.heap.size w wr) (fun _ i _ => l.length - (intOf i).toNat)
  case atStart => exact ⟨0, rfl, by omega, fun k hk h => by omega, Below.refl _ _⟩
  case round =>
    obtain ⟨j, rfl, hj, hF, hB⟩ := hrel
    have HF := Lib.hid hF
    have HB := Lib.hid hB
    clear hF hB
    by_cases hlt : j < l.length
    · obtain ⟨ad, rfl, k0, k1, k2⟩ := (HR.out.below HB.out).at_ hlt
      have hlt' : (j : Int) < (l.length : Int) := by omega
      have hbx := (HB.out.cell (p := ⟨b, 0, none⟩) (cell_lt HBX.out)).trans HBX.out
      have hc := col1_any l[j] s b wr hbx
      generalize hI : isC s l[j] = I at hc
      have HC := Lib.hid hc
      have HI := Lib.hid hI
      clear hc hI hbx
      cases I
      · go_wp2_with (go_at_call 51; (with_reducible refine HC.out.mono ?_); rintro e w5 ⟨rfl, hb⟩; have HB5 := Lib.hid (thn HB.out hb); clear hb)
        go_roundw
        case rel => exact ⟨j + 1, by go_num, hlt, fun k hk hkj => by
          rcases Nat.lt_or_ge k j with h | h
          · exact HF.out k hk h
          · obtain rfl : k = j := by omega
            exact HI.out, HB5.out⟩
        case measure => simp [intOf]; omega
      · have hz := fst1_yes hlt (fun k hk h => HF.out k hk h) HI.out
        have HZ := Lib.hid hz
        clear hz
        go_wp2_with (go_at_call 51; (with_reducible refine HC.out.mono ?_); rintro e w5 ⟨rfl, hb⟩; have HB5 := Lib.hid (thn HB.out hb); clear hb)
        go_ret
        exact ⟨ret_int HZ.out.symm, HB5.out⟩
    · have hz : fst1 (isC s) l = -1 := fst1_no fun k hk => HF.out k hk (by omega)
      have HZ := Lib.hid hz
      clear hz
      go_wp2
      go_ret
      exact ⟨ret_int HZ.out.symm, HB.out⟩
/-- What Column answers. -/
def colF (l : List Cl) (s : ByteArray) : Int × Int := if l.any (isC s) = true then (fst1 (isC s) l, 0) else (0, 94)
set_option maxRecDepth 100000 in
set_option maxHeartbeats 2000000 in
theorem column_any (m : ByteArray) (A iA : Option Addr) (c in_ ic : Nat) (k : Int) (l : List Cl) (s : ByteArray) (w : World) (hr : RdC w A l) (hn : l.length ≤ 9223372036854775807) :
    Calls Try.prog 25 #[tbl m A l.length c k iA in_ ic, .string s] w fun e w' => e = .returned (.tuple #[.int .i64 (colF l s).1, .int .i64 (colF l s).2]) ∧ Below w.heap.size w w' := by
  have hB2 := (below1 w (.cells #[.string m, .slice A l.length c, .int .i64 k, .slice iA in_ ic] 47)).alloc (by simp) (.cells #[.string s] 9)
  have hX := (Box4.new w m A l.length c k iA in_ ic 47).below (below1 _ (.cells #[.string s] 9))
  have hs := cell_of_box (w := w.alloc (.cells #[.string m, .slice A l.length c, .int .i64 k, .slice iA in_ ic] 47)) (v := .string s) (T := 9) (b := w.heap.size + 1) (by simp) (Below.refl _ _)
  have HC := Lib.hid (idxC_any A c l s (w.heap.size + 1) _ (hr.below hB2) hs hn)
  have HB2 := Lib.hid hB2
  obtain ⟨x0, x1, x2, x3⟩ := hX
  clear hr hB2 hs
  cases ha : l.any (isC s)
  · have hF : colF l s = (0, 94) := by unfold colF; rw [if_neg (by rw [ha]; decide)]
    have hz : fst1 (isC s) l = -1 := by unfold fst1; rw [if_neg (by rw [ha]; decide)]
    rw [hF]
    rw [hz] at HC
    clear hF hz ha
    go_enter Try.func25, Try.ntmps25
    go_wp2_with (go_at_call 50; (with_reducible refine HC.out.mono ?_); rintro e w1 ⟨rfl, hb⟩; have HB := Lib.hid (thn HB2.out hb); clear hb)
    go_ret2
    exact ⟨rfl, HB.out⟩
  · have hF : colF l s = (fst1 (isC s) l, 0) := by unfold colF; rw [if_pos ha]
    obtain ⟨i, hi, hz, _, _⟩ := fst1_get ha
    rw [hF, hz]
    rw [hz] at HC
    have hge : ¬ (i : Int) < 0 := by omega
    clear hF hz ha
    go_enter Try.func25, Try.ntmps25
    go_wp2_with (go_at_call 50; (with_reducible refine HC.out.mono ?_); rintro e w1 ⟨rfl, hb⟩; have HB := Lib.hid (thn HB2.out hb); clear hb)
    go_ret2
    exact ⟨rfl, HB.out⟩
end Go.Proofs.Ytddeaiciochggaa
