/- What the reader's word, number and sign do, and which octets begin a sign: the walks. Conditions: a reader in a block of its own; strconv.ErrRange holds an error. -/
import Derived.Test.YtlehmnbigocgdaaGreatDoorLve
namespace Go.Proofs.YtlehmnbigocgdaaGreatDoor.Lx
open Go.RowKit
set_option linter.unusedSimpArgs false
set_option linter.unusedVariables false

theorem below_grown {w w' : World} (h : Below w.heap.size w w') (r : Option Nat) : w.grownBy w' r := ⟨h.os, h.tape, h.output, h.size, fun k hk _ => h.block k hk⟩
theorem grown_none {w w' : World} (h : w.grownBy w' none) (r : Option Nat) : w.grownBy w' r := ⟨h.os, h.tape, h.output, h.size, fun k hk _ => h.block k hk (by simp)⟩

/-- strconv.ErrRange holds an error. -/
def Ran (w : World) : Prop := ∃ te pe, w.cell? ⟨2, 0, none⟩ = some (.iface te pe)
theorem Ran.lt {w : World} (h : Ran w) : 2 < w.heap.size := by
  obtain ⟨te, pe, h⟩ := h
  rcases Nat.lt_or_ge 2 w.heap.size with h' | h'
  · exact h'
  · simp [World.cell?, Array.getElem?_eq_none h'] at h
theorem Ran.grown {w w' : World} {g : Nat} (h : Ran w) (hg : w.grownBy w' (some g)) (hne : 2 < g) : Ran w' := by
  have hl := h.lt
  obtain ⟨te, pe, h⟩ := h
  exact ⟨te, pe, by rw [World.cell?_of_block (hg.block 2 hl (by simp; omega))]; exact h⟩

theorem extract_runN_size (p : UInt8 → Bool) (s : ByteArray) (j : Nat) (hj : j ≤ s.size) : (s.extract j (j + runN p s j)).size = runN p s j := by
  have h := runN_le p s j hj
  rw [ByteArray.size_extract]; omega
set_option maxHeartbeats 1000000 in
theorem word_yes (g : Nat) (s : ByteArray) (j : Nat) (w : World) (h : Rdr w g s j) (hj : j ≤ s.size) (hs : s.size ≤ maxLen) (hl : runN isWrd s j ≤ 16) :
    Calls Tryz.prog 92 #[.pointer (some ⟨g, 0, none⟩)] w fun e w' => e = .returned (.tuple #[.string (lowS (s.extract j (j + runN isWrd s j))), .bool true]) ∧ Rdr w' g s (j + runN isWrd s j) ∧ w.grownBy w' (some g) := by
  have hrun := run_any g 120 isWrd fits35 s j w h hj hs
  have hsz := extract_runN_size isWrd s j hj
  generalize s.extract j (j + runN isWrd s j) = x at hrun hsz ⊢
  generalize runN isWrd s j = n at hrun hsz hl ⊢
  have HX := Lib.hid hsz
  have hx : x.size ≤ 16 := by omega
  clear hsz hl h
  go_enter Tryz.func92, Tryz.ntmps92
  go_wp2_with fail
  go_at_call 87
  refine hrun.mono ?_
  rintro e w1 ⟨rfl, hR, hG⟩
  have HR := Lib.hid hR
  have HG := Lib.hid hG
  clear hR hG hrun
  go_wp2_with (go_at_call 53; refine (lower_any x _ (by omega)).mono ?_; rintro e w2 ⟨rfl, hB⟩)
  go_ret2
  have hB2 := below_grown (by assumption : Below w1.heap.size w1 _) none
  exact ⟨rfl, HR.out.grown hB2 (by simp), grownBy_trans HG.out (grown_none hB2 _) (.inl rfl)⟩
set_option maxHeartbeats 1000000 in
theorem word_no (g : Nat) (s : ByteArray) (j : Nat) (w : World) (h : Rdr w g s j) (hj : j ≤ s.size) (hs : s.size ≤ maxLen) (hl : 16 < runN isWrd s j) :
    Calls Tryz.prog 92 #[.pointer (some ⟨g, 0, none⟩)] w fun e w' => e = .returned (.tuple #[.string ⟨#[]⟩, .bool false]) ∧ w.grownBy w' (some g) := by
  have hrun := run_any g 120 isWrd fits35 s j w h hj hs
  have hsz := extract_runN_size isWrd s j hj
  have hb := runN_le isWrd s j hj
  unfold maxLen at hs
  generalize s.extract j (j + runN isWrd s j) = x at hrun hsz ⊢
  generalize runN isWrd s j = n at hrun hsz hl hb ⊢
  have HX := Lib.hid hsz
  have hx : 16 < x.size := by omega
  have hx2 : x.size ≤ 9223372036854775807 := by omega
  clear hsz hl h hb hs hj
  go_enter Tryz.func92, Tryz.ntmps92
  go_wp2_with fail
  go_at_call 87
  refine hrun.mono ?_
  rintro e w1 ⟨rfl, hR, hG⟩
  have HG := Lib.hid hG
  clear hR hG hrun
  go_wp2_with fail
  go_ret2
  exact ⟨rfl, HG.out⟩

theorem parse_big : ∀ (l : List UInt8) (n : Nat), (∀ c ∈ l, isDig c = true) → n < 18446744073709551616 →
    Lib.parseUint10 n l = (if l.foldl (fun n c => n * 10 + (c.toNat - 48)) n < 18446744073709551616 then .ok (l.foldl (fun n c => n * 10 + (c.toNat - 48)) n) else .range)
  | [], n, _, hn => by simp [Lib.parseUint10, hn]
  | c :: r, n, h, hn => by
    have hc : isDig c = true := h c (by simp)
    have hge : ∀ (l : List UInt8) (m : Nat), m ≤ l.foldl (fun n c => n * 10 + (c.toNat - 48)) m := by
      intro l
      induction l with
      | nil => intro m; exact Nat.le_refl _
      | cons c r ih => intro m; have := ih (m * 10 + (c.toNat - 48)); simp only [List.foldl_cons]; omega
    have hr := hge r (n * 10 + (c.toNat - 48))
    simp [isDig] at hc
    rw [Lib.parseUint10, if_pos hc, List.foldl_cons]
    split
    · rw [if_neg (by omega)]
    · split
      · rw [if_neg (by omega)]
      · exact parse_big r _ (fun c hc => h c (by simp [hc])) (by omega)
theorem atoi_digs {l : List UInt8} (h : ∀ c ∈ l, isDig c = true) (hne : l ≠ []) : Lib.atoiAll l = if numOf l ≤ 9223372036854775807 then .ok (numOf l : Int) else .range := by
  cases l with
  | nil => exact absurd rfl hne
  | cons c r =>
    have hc := h c (by simp)
    simp [isDig] at hc
    have hp := parse_big (c :: r) 0 h (by omega)
    have hn : (c :: r).foldl (fun n c => n * 10 + (c.toNat - 48)) 0 = numOf (c :: r) := rfl
    rw [hn] at hp
    have hm : Lib.parseMag (if c.toNat = 43 ∨ c.toNat = 45 then r else c :: r) = if numOf (c :: r) < 18446744073709551616 then .ok (numOf (c :: r)) else .range := by
      rw [if_neg (by omega), Lib.parseMag, if_neg (by simp), hp]
    unfold Lib.atoiAll
    simp only [hm]
    have h45 : ¬ c.toNat = 45 := by omega
    by_cases h1 : numOf (c :: r) < 18446744073709551616
    · rw [if_pos h1]
      by_cases h2 : numOf (c :: r) ≤ 9223372036854775807
      · rw [if_pos h2]; simp [h45]; omega
      · rw [if_neg h2]; simp [h45]; omega
    · rw [if_neg h1, if_neg (by omega)]
theorem tw_all {p : UInt8 → Bool} : ∀ (l : List UInt8) (c : UInt8), c ∈ l.takeWhile p → p c = true
  | [], c, h => by simp at h
  | d :: r, c, h => by
    rw [List.takeWhile_cons] at h
    split at h
    · rcases List.mem_cons.1 h with rfl | h
      · assumption
      · exact tw_all r c h
    · simp at h
end Go.Proofs.YtlehmnbigocgdaaGreatDoor.Lx
