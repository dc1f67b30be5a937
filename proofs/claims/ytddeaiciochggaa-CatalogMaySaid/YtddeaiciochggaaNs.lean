/- Whether a table, or a catalog, has an index of a name: the walks of slices.IndexFunc, slices.ContainsFunc, hasIndex and Add's closure. Conditions: lists that are read in memory. -/
import Derived.Test.YtddeaiciochggaaNg
namespace Go.Proofs.Ytddeaiciochggaa
open Go.RowKit Go.Sort Go.Maps
set_option linter.unusedSimpArgs false
set_option linter.unusedVariables false

set_option maxHeartbeats 1000000 in
theorem ix1_any (x : Ix) (s : ByteArray) (b : Nat) (w : World) (hb : w.cell? ⟨b, 0, none⟩ = some (.string s)) :
    Calls Try.prog 56 #[x.val, .pointer (some ⟨b, 0, none⟩)] w fun e w' => e = .returned (.bool (isX s x)) ∧ Below w.heap.size w w' := by
  have HB := Lib.hid (below1 w (.cells #[.string x.m, .int .i64 x.c] 81))
  have hb2 := (HB.out.cell (p := ⟨b, 0, none⟩) (cell_lt hb)).trans hb
  clear hb
  go_enter Try.func56, Try.ntmps56
  go_wp2
  go_ret
  exact ⟨rfl, HB.out⟩
set_option maxRecDepth 100000 in
set_option maxHeartbeats 4000000 in
theorem idxX_any (A : Option Addr) (c : Nat) (l : List Ix) (s : ByteArray) (b : Nat) (w : World) (hr : RdX w A l) (hb : w.cell? ⟨b, 0, none⟩ = some (.string s)) (hn : l.length ≤ 9223372036854775807) :
    Calls Try.prog 74 #[.slice A l.length c, .func (.func 56) #[] #[.pointer (some ⟨b, 0, none⟩)]] w fun e w' => e = .returned (.int .i64 (fst1 (isX s) l)) ∧ Below w.heap.size w w' := by
  have HR := Lib.hid hr
  have HBX := Lib.hid hb
  clear hr hb
  go_enter Try.func74, Try.ntmps74
  go_wp2
  go_loopw [5, 8] (fun _ i wr => ∃ j : Nat, i = .int .i64 j ∧ j ≤ l.length ∧ (∀ k (hk : k < l.length), k < j → isX s l[k] = false) ∧ Below w.heap.size w wr) (fun _ i _ => l.length - (intOf i).toNat)
  case atStart => exact ⟨0, rfl, by omega, fun k hk h => by omega, Below.refl _ _⟩
  case round =>
    obtain ⟨j, rfl, hj, hF, hB⟩ := hrel
    have HF := Lib.hid hF
    have HB := Lib.hid hB
    clear hF hB
    by_cases hlt : j < l.length
    · obtain ⟨ad, rfl, k0, k1⟩ := (HR.out.below HB.out).at_ hlt
      have hlt' : (j : Int) < (l.length : Int) := by omega
      have hbx := (HB.out.cell (p := ⟨b, 0, none⟩) (cell_lt HBX.out)).trans HBX.out
      have hc := ix1_any l[j] s b wr hbx
      generalize hI : isX s l[j] = I at hc
      have HC := Lib.hid hc
      have HI := Lib.hid hI
      clear hc hI hbx
      cases I
      · go_wp2_with (go_at_call 56; (with_reducible refine HC.out.mono ?_); rintro e w5 ⟨rfl, hb⟩; have HB5 := Lib.hid (thn HB.out hb); clear hb)
        go_roundw
        case rel => exact ⟨j + 1, by go_num, hlt, fun k hk hkj => by
          rcases Nat.lt_or_ge k j with h | h
          · exact HF.out k hk h
          · obtain rfl : k = j := by omega
            exact HI.out, HB5.out⟩
        case measure => simp [intOf]; omega
      · have hz := fst1_yes hlt (fun k hk h => HF.out k hk h) HI.out
        have HZ := Lib.hid hz
        clear hz
        go_wp2_with (go_at_call 56; (with_reducible refine HC.out.mono ?_); rintro e w5 ⟨rfl, hb⟩; have HB5 := Lib.hid (thn HB.out hb); clear hb)
        go_ret
        exact ⟨ret_int HZ.out.symm, HB5.out⟩
    · have hz : fst1 (isX s) l = -1 := fst1_no fun k hk => HF.out k hk (by omega)
      have HZ := Lib.hid hz
      clear hz
      go_wp2
      go_ret
      exact ⟨ret_int HZ.out.symm, HB.out⟩
theorem fst1_ge {α : Type} {p : α → Bool} {l : List α} : decide (0 ≤ fst1 p l) = l.any p := by
  unfold fst1
  split
  · rename_i h; rw [h]; exact decide_eq_true (by omega)
  · rename_i h; rw [show l.any p = false by simpa using h]; rfl
def hasX (s : ByteArray) (t : Tb) : Bool := t.idx.any (isX s)
set_option maxRecDepth 100000 in
set_option maxHeartbeats 2000000 in
theorem hasX_any (A : Option Addr) (c : Nat) (l : List Ix) (s : ByteArray) (b : Nat) (w : World) (hr : RdX w A l) (hb : w.cell? ⟨b, 0, none⟩ = some (.string s)) (hn : l.length ≤ 9223372036854775807) :
    Calls Try.prog 55 #[.slice A l.length c, .func (.func 56) #[] #[.pointer (some ⟨b, 0, none⟩)]] w fun e w' => e = .returned (.bool (l.any (isX s))) ∧ Below w.heap.size w w' := by
  have hc := idxX_any A c l s b w hr hb hn
  have hg := fst1_ge (p := isX s) (l := l)
  generalize l.any (isX s) = R at hg ⊢
  generalize fst1 (isX s) l = F at hc hg
  have HC := Lib.hid hc
  clear hr hb hc
  subst hg
  go_enter Try.func55, Try.ntmps55
  go_wp2_with (go_at_call 74; (with_reducible refine HC.out.mono ?_); rintro e w1 ⟨rfl, hb⟩; have HB := Lib.hid hb; clear hb)
  go_ret
  exact ⟨rfl, HB.out⟩
set_option maxRecDepth 100000 in
set_option maxHeartbeats 2000000 in
theorem hasIndex_any (m : ByteArray) (cA iA : Option Addr) (cn cc ic : Nat) (key : Int) (l : List Ix) (s : ByteArray) (w : World) (hx : RdX w iA l) (hn : l.length ≤ 9223372036854775807) :
    Calls Try.prog 31 #[tbl m cA cn cc key iA l.length ic, .string s] w fun e w' => e = .returned (.bool (l.any (isX s))) ∧ Below w.heap.size w w' := by
  have hB2 := (below1 w (.cells #[.string m, .slice cA cn cc, .int .i64 key, .slice iA l.length ic] 47)).alloc (by simp) (.cells #[.string s] 9)
  have hX := (Box4.new w m cA cn cc key iA l.length ic 47).below (below1 _ (.cells #[.string s] 9))
  have hs := cell_of_box (w := w.alloc (.cells #[.string m, .slice cA cn cc, .int .i64 key, .slice iA l.length ic] 47)) (v := .string s) (T := 9) (b := w.heap.size + 1) (by simp) (Below.refl _ _)
  have HC := Lib.hid (hasX_any iA ic l s (w.heap.size + 1) _ (hx.below hB2) hs hn)
  have HB2 := Lib.hid hB2
  obtain ⟨x0, x1, x2, x3⟩ := hX
  clear hx hB2 hs
  generalize l.any (isX s) = R at HC ⊢
  go_enter Try.func31, Try.ntmps31
  go_wp2_with (go_at_call 55; (with_reducible refine HC.out.mono ?_); rintro e w1 ⟨rfl, hb⟩; have HB := Lib.hid (thn HB2.out hb); clear hb)
  go_ret
  exact ⟨rfl, HB.out⟩
set_option maxRecDepth 100000 in
set_option maxHeartbeats 2000000 in
theorem add1_any (m : ByteArray) (cA iA : Option Addr) (cn cc ic : Nat) (key : Int) (l : List Ix) (s : ByteArray) (b : Nat) (w : World) (hx : RdX w iA l) (hn : l.length ≤ 9223372036854775807) (hb : w.cell? ⟨b, 4, none⟩ = some (.string s)) :
    Calls Try.prog 30 #[tbl m cA cn cc key iA l.length ic, .pointer (some ⟨b, 0, none⟩)] w fun e w' => e = .returned (.bool (l.any (isX s))) ∧ Below w.heap.size w w' := by
  have hB1 := below1 w (.cells #[.string m, .slice cA cn cc, .int .i64 key, .slice iA l.length ic] 47)
  have hX := Box4.new w m cA cn cc key iA l.length ic 47
  have hb2 := (hB1.cell (p := ⟨b, 4, none⟩) (cell_lt hb)).trans hb
  have HC := Lib.hid (hasIndex_any m cA iA cn cc ic key l s _ (hx.below hB1) hn)
  have HB1 := Lib.hid hB1
  obtain ⟨x0, x1, x2, x3⟩ := hX
  clear hx hB1 hb
  generalize l.any (isX s) = R at HC ⊢
  go_enter Try.func30, Try.ntmps30
  go_wp2_with (go_at_call 31; (with_reducible refine HC.out.mono ?_); rintro e w1 ⟨rfl, hb⟩; have HB := Lib.hid (thn HB1.out hb); clear hb)
  go_ret
  exact ⟨rfl, HB.out⟩
set_option maxRecDepth 100000 in
set_option maxHeartbeats 4000000 in
theorem idxT_any (A : Option Addr) (c : Nat) (l : List Tb) (s : ByteArray) (b : Nat) (w : World) (hr : RdS w A l) (hb : w.cell? ⟨b, 4, none⟩ = some (.string s)) (hn : l.length ≤ 9223372036854775807) :
    Calls Try.prog 54 #[.slice A l.length c, .func (.func 30) #[] #[.pointer (some ⟨b, 0, none⟩)]] w fun e w' => e = .returned (.int .i64 (fst1 (hasX s) l)) ∧ Below w.heap.size w w' := by
  have HR := Lib.hid hr
  have HBX := Lib.hid hb
  clear hr hb
  go_enter Try.func54, Try.ntmps54
  go_wp2
  go_loopw [5, 8] (fun _ i wr => ∃ j : Nat, i = .int .i64 j ∧ j ≤ l.length ∧ (∀ k (hk : k < l.length), k < j → hasX s l[k] = false) ∧ Below w.heap.size w wr) (fun _ i _ => l.length - (intOf i).toNat)
  case atStart => exact ⟨0, rfl, by omega, fun k hk h => by omega, Below.refl _ _⟩
  case round =>
    obtain ⟨j, rfl, hj, hF, hB⟩ := hrel
    have HF := Lib.hid hF
    have HB := Lib.hid hB
    clear hF hB
    by_cases hlt : j < l.length
    · obtain ⟨ad, rfl, cA, iA, cc, ic, k0, k1, k2, k3, hT⟩ := (HR.out.below HB.out).at_ hlt
      have hlt' : (j : Int) < (l.length : Int) := by omega
      have hbx := (HB.out.cell (p := ⟨b, 4, none⟩) (cell_lt HBX.out)).trans HBX.out
      have hc := add1_any l[j].m cA iA l[j].cols.length cc ic l[j].key l[j].idx s b wr hT.x (by have := hT.xb; omega) hbx
      have hI0 : l[j].idx.any (isX s) = hasX s l[j] := rfl
      rw [hI0] at hc
      generalize hI : hasX s l[j] = I at hc
      have HC := Lib.hid hc
      have HI := Lib.hid hI
      clear hc hI hbx hI0 hT
      cases I
      · go_wp2_with (go_at_call 30; (with_reducible refine HC.out.mono ?_); rintro e w5 ⟨rfl, hb⟩; have HB5 := Lib.hid (thn HB.out hb); clear hb)
        go_roundw
        case rel => exact ⟨j + 1, by go_num, hlt, fun k hk hkj => by
          rcases Nat.lt_or_ge k j with h | h
          · exact HF.out k hk h
          · obtain rfl : k = j := by omega
            exact HI.out, HB5.out⟩
        case measure => simp [intOf]; omega
      · have hz := fst1_yes hlt (fun k hk h => HF.out k hk h) HI.out
        have HZ := Lib.hid hz
        clear hz
        go_wp2_with (go_at_call 30; (with_reducible refine HC.out.mono ?_); rintro e w5 ⟨rfl, hb⟩; have HB5 := Lib.hid (thn HB.out hb); clear hb)
        go_ret
        exact ⟨ret_int HZ.out.symm, HB5.out⟩
    · have hz : fst1 (hasX s) l = -1 := fst1_no fun k hk => HF.out k hk (by omega)
      have HZ := Lib.hid hz
      clear hz
      go_wp2
      go_ret
      exact ⟨ret_int HZ.out.symm, HB.out⟩
set_option maxRecDepth 100000 in
set_option maxHeartbeats 2000000 in
theorem hasT_any (A : Option Addr) (c : Nat) (l : List Tb) (s : ByteArray) (b : Nat) (w : World) (hr : RdS w A l) (hb : w.cell? ⟨b, 4, none⟩ = some (.string s)) (hn : l.length ≤ 9223372036854775807) :
    Calls Try.prog 29 #[.slice A l.length c, .func (.func 30) #[] #[.pointer (some ⟨b, 0, none⟩)]] w fun e w' => e = .returned (.bool (l.any (hasX s))) ∧ Below w.heap.size w w' := by
  have hc := idxT_any A c l s b w hr hb hn
  have hg := fst1_ge (p := hasX s) (l := l)
  generalize l.any (hasX s) = R at hg ⊢
  generalize fst1 (hasX s) l = F at hc hg
  have HC := Lib.hid hc
  clear hr hb hc
  subst hg
  go_enter Try.func29, Try.ntmps29
  go_wp2_with (go_at_call 54; (with_reducible refine HC.out.mono ?_); rintro e w1 ⟨rfl, hb⟩; have HB := Lib.hid hb; clear hb)
  go_ret
  exact ⟨rfl, HB.out⟩
end Go.Proofs.Ytddeaiciochggaa
