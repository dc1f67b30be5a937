/- What the reader's run answers and how far it goes: the walk. Conditions: a reader in a block of its own. -/
import Derived.Test.YtlehmnbigocgdaaGreatDoorLvb
import Derived.Lib.Strings
import Derived.Deep.Light
namespace Go.Proofs.YtlehmnbigocgdaaGreatDoor.Lx
open Go.RowKit
set_option linter.unusedSimpArgs false
set_option linter.unusedVariables false

theorem ret_str {a b : ByteArray} (h : a = b) : Ending.returned (.string a) = .returned (.string b) := by rw [h]
theorem drop_cons (s : ByteArray) (i : Nat) (h : i < s.size) : s.data.toList.drop i = s[i] :: s.data.toList.drop (i + 1) := by
  rw [List.drop_eq_getElem_cons (by simpa using h)]; rfl
theorem drop_end (s : ByteArray) (i : Nat) (h : s.size ≤ i) : s.data.toList.drop i = [] := List.drop_eq_nil_of_le (by simpa using h)
/-- How many octets from place j on fit. -/
def runN (p : UInt8 → Bool) (s : ByteArray) (j : Nat) : Nat := ((s.data.toList.drop j).takeWhile p).length
theorem runN_yes {p : UInt8 → Bool} {s : ByteArray} {j : Nat} (h : j < s.size) (hp : p s[j] = true) : runN p s j = runN p s (j + 1) + 1 := by
  unfold runN; rw [drop_cons s j h, List.takeWhile_cons, if_pos hp]; rfl
theorem runN_no {p : UInt8 → Bool} {s : ByteArray} {j : Nat} (h : j < s.size) (hp : p s[j] = false) : runN p s j = 0 := by
  unfold runN; rw [drop_cons s j h, List.takeWhile_cons, if_neg (by simp [hp])]; rfl
theorem runN_end {p : UInt8 → Bool} {s : ByteArray} {j : Nat} (h : s.size ≤ j) : runN p s j = 0 := by
  unfold runN; rw [drop_end s j h]; rfl
theorem runN_le (p : UInt8 → Bool) (s : ByteArray) (j : Nat) (h : j ≤ s.size) : j + runN p s j ≤ s.size := by
  unfold runN
  have h1 := tw_dw p (s.data.toList.drop j)
  have h2 : (s.data.toList.drop j).length = s.size - j := by rw [List.length_drop]; simp
  omega
theorem drop_runN (p : UInt8 → Bool) (s : ByteArray) (j : Nat) : s.data.toList.drop (j + runN p s j) = (s.data.toList.drop j).dropWhile p := by
  rw [← List.drop_drop]; exact drop_tw p _
theorem extract_runN (p : UInt8 → Bool) (s : ByteArray) (j : Nat) : (s.extract j (j + runN p s j)).data.toList = (s.data.toList.drop j).takeWhile p := by
  rw [Lib.extract_data, Nat.add_sub_cancel_left]
  exact take_tw p _

set_option maxHeartbeats 4000000 in
theorem run_any (g F : Nat) (p : UInt8 → Bool) (hF : Fits F p) (s : ByteArray) (j : Nat) (w : World) (h : Rdr w g s j) (hj : j ≤ s.size) (hs : s.size ≤ maxLen) :
    Calls Tryz.prog 87 #[.pointer (some ⟨g, 0, none⟩), .func (.func F) #[] #[]] w fun e w' => e = .returned (.string (s.extract j (j + runN p s j))) ∧ Rdr w' g s (j + runN p s j) ∧ w.grownBy w' (some g) := by
  obtain ⟨c0, c1, f1⟩ := h.cells
  have H := Lib.hid h
  have hg := h.lt
  clear h
  have HS := Lib.hid hs
  have HJ := Lib.hid hj
  clear hj
  unfold maxLen at hs
  have hle := runN_le p s j HJ.out
  have HL := Lib.hid hle
  clear hle
  go_enter Tryz.func87, Tryz.ntmps87
  go_wp2_with fail
  go_region_held3 (fun w1 => w1.cell? ⟨g, 1, none⟩ = some (.int .i64 j)) (first | assumption | simp [*]) ((go_at_call 118; refine (taker_any g F _ (by simpa using hg)).mono ?_; rintro e w1 ⟨rfl, hT, hG⟩; have hR : Rdr w1 g s j := (Rdr.grown (row := none) (show Rdr w.drew g s j from H.out) hG (by simp)); have hc1 := hR.cells.2.1))
  have HR := Lib.hid hR
  have HT := Lib.hid hT
  have HG := Lib.hid hG
  clear hR hT hG hc1 c0 c1 f1
  go_wp2_with fail
  go_loopg [15] (s.size - j) (fun k _ wr => ∃ i : Nat, k = s.size - i ∧ j ≤ i ∧ i ≤ s.size ∧ i + runN p s i = j + runN p s j ∧ Rdr wr g s i ∧ Tkr wr w.heap.size g F ∧ w.grownBy wr (some g))
  case atStart =>
    exact ⟨j, rfl, Nat.le_refl _, HJ.out, rfl, HR.out, HT.out, grownBy_trans (grownBy_drewN w 1 _) (HG.out) (.inr fun _ e => by cases e)⟩
  case round =>
    obtain ⟨i, hk, hji, his, hsum, hRi, hTi, hGi⟩ := hrel
    have hT0 := hTi.ne0
    have hT1 := hTi.ne1
    have HK := Lib.hid hk
    have HSum := Lib.hid hsum
    have HGi := Lib.hid hGi
    have HRi := Lib.hid hRi
    have HTi := Lib.hid hTi
    have HI := Lib.hid his
    have HJI := Lib.hid hji
    clear hk hsum hGi hRi hTi his hji
    rcases Nat.lt_or_ge i s.size with hlt | hge
    · cases hp : p s[i] with
      | true =>
        have hc := take_yes w.heap.size g F p hF s i wr HRi.out HTi.out hlt HS.out hp
        have HX : Hid (i + 1 + runN p s (i + 1) = j + runN p s j) := by have h1 := HSum.out; rw [runN_yes hlt hp] at h1; show _ = _; omega
        clear hp
        go_wp2_with (go_at_call 134; refine hc.mono ?_; rintro e w2 ⟨rfl, hR2, hG2⟩)
        go_roundg (s.size - (i + 1))
        case measure => rw [HK.out]; omega
        case rel => exact ⟨i + 1, rfl, by have := HJI.out; omega, hlt, HX.out, by assumption, HTi.out.grown (by assumption) (by simpa using hT0) (by simpa using hT1), grownBy_trans HGi.out (by assumption) (.inl rfl)⟩
      | false =>
        have hc := take_no w.heap.size g F p hF s i wr HRi.out HTi.out hlt HS.out hp
        have HX : Hid (i = j + runN p s j) := by have h1 := HSum.out; rw [runN_no hlt hp] at h1; exact h1
        clear hp
        go_wp2_with (go_at_call 134; refine hc.mono ?_; rintro e w2 ⟨rfl, hR2, hG2⟩; have HR2 := Lib.hid hR2; have HG2 := Lib.hid hG2; obtain ⟨e0, e1, _⟩ := hR2.cells; clear hR2 hG2)
        have hji := HJI.out
        have hi1 : i ≤ s.size := HI.out
        go_region
        all_goals
          go_wp2
          go_ret
          refine ⟨?_, ?_, ?_⟩
          · exact ret_str (by rw [← HX.out])
          · rw [← HX.out]; exact HR2.out.drewN 1
          · exact grownBy_trans HGi.out (grownBy_trans HG2.out (grownBy_drewN _ 1 _) (.inl rfl)) (.inl rfl)
    · obtain rfl : i = s.size := by have := HI.out; omega
      have hc := take_end w.heap.size g F s wr HRi.out HTi.out
      have HX : Hid (s.size = j + runN p s j) := by have h1 := HSum.out; rw [runN_end (Nat.le_refl _)] at h1; exact h1
      go_wp2_with (go_at_call 134; refine hc.mono ?_; rintro e w2 ⟨rfl, hR2, hG2⟩; have HR2 := Lib.hid hR2; have HG2 := Lib.hid hG2; obtain ⟨e0, e1, _⟩ := hR2.cells; clear hR2 hG2)
      have hji := HJI.out
      have hi1 : s.size ≤ s.size := HI.out
      go_region
      all_goals
        go_wp2
        go_ret
        refine ⟨?_, ?_, ?_⟩
        · exact ret_str (by rw [← HX.out])
        · rw [← HX.out]; exact HR2.out.drewN 1
        · exact grownBy_trans HGi.out (grownBy_trans HG2.out (grownBy_drewN _ 1 _) (.inl rfl)) (.inl rfl)
end Go.Proofs.YtlehmnbigocgdaaGreatDoor.Lx
