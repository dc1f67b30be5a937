/- What the reader's begins and skip do: the walks. Conditions: a reader in a block of its own. -/
import Derived.Test.YtlehmnbigocgdaaGreatDoorLvd
import Derived.ScopeJumps
namespace Go.Proofs.YtlehmnbigocgdaaGreatDoor.Lx
open Go.RowKit
set_option linter.unusedSimpArgs false
set_option linter.unusedVariables false

theorem hasPrefix_isPre : ∀ (p r : List UInt8), Lib.hasPrefix r p = isPre p r
  | [], r => by simp [Lib.hasPrefix, isPre]
  | c :: p, [] => by simp [Lib.hasPrefix, isPre]
  | c :: p, d :: r => by
    have h := hasPrefix_isPre p r
    unfold Lib.hasPrefix isPre at h ⊢
    rw [List.isPrefixOf, h, Bool.eq_iff_iff]
    simp
    intro _
    exact eq_comm
/-- What is left of a text from place j on. -/
def rest (s : ByteArray) (j : Nat) : List UInt8 := s.data.toList.drop j
theorem rest_length (s : ByteArray) (j : Nat) : (rest s j).length = s.size - j := by unfold rest; rw [List.length_drop]; simp

set_option maxHeartbeats 1000000 in
theorem begins_any (g : Nat) (p s : ByteArray) (j : Nat) (w : World) (h : Rdr w g s j) (hj : j ≤ s.size) (hs : s.size ≤ maxLen) :
    Calls Tryz.prog 89 #[.pointer (some ⟨g, 0, none⟩), .string p] w fun e w' => e = .returned (.bool (isPre p.data.toList (rest s j))) ∧ Rdr w' g s j ∧ w.grownBy w' (some g) := by
  obtain ⟨c0, c1, f1⟩ := h.cells
  have H := Lib.hid h
  clear h
  unfold maxLen at hs
  have hp : ∀ w, Calls Tryz.prog 119 #[.string (s.extract j s.size), .string p] w fun e w' => e = .returned (.bool (isPre p.data.toList (rest s j))) ∧ w' = w := fun w => by
    have e := Tryz.strings_HasPrefix (s.extract j s.size) p w
    have hx : (s.extract j s.size).data.toList = rest s j := by rw [Lib.extract_data]; exact List.take_of_length_le (by rw [List.length_drop]; simp)
    rw [hasPrefix_isPre, hx] at e
    exact e
  go_enter Tryz.func89, Tryz.ntmps89
  go_wp2_with fail
  go_quiet ((go_at_call 119; exact Calls.quiet_of_same (hp _)))
  go_wp2
  go_ret
  exact ⟨rfl, H.out.drewN _, grownBy_drewN _ _ _⟩

/-- The reader's place, read out of memory. -/
def plc (w : World) (g : Nat) : Nat := match w.cell? ⟨g, 1, none⟩ with | some (.int _ n) => n.toNat | _ => 0
theorem plc_of {w : World} {g : Nat} {s : ByteArray} {j : Nat} (h : Rdr w g s j) : plc w g = j := by
  unfold plc; rw [h.cells.2.1]; simp

theorem rest_run (p : UInt8 → Bool) (s : ByteArray) (j : Nat) : rest s (j + runN p s j) = (rest s j).dropWhile p := drop_runN p s j
def dd : ByteArray := ⟨#[45, 45]⟩

/-- What holds at each jump back: the reader stands further on, what is skipped from there on is what was. -/
def Jmp (w : World) (g : Nat) (s : ByteArray) (j : Nat) (wr : World) : Prop := ∃ i, j ≤ i ∧ i ≤ s.size ∧ skipL (rest s i) = skipL (rest s j) ∧ Rdr wr g s i ∧ w.grownBy wr (some g)
theorem Jmp.next {w wr w1 w2 w3 : World} {g : Nat} {s : ByteArray} {j i : Nat} (h1 : j ≤ i) (h2 : i ≤ s.size) (h3 : skipL (rest s i) = skipL (rest s j)) (hG : w.grownBy wr (some g))
    (hp : isPre [45, 45] (rest s (i + runN isBlk s i)) = true) (g1 : wr.grownBy w1 (some g)) (g2 : w1.grownBy w2 (some g)) (hR : Rdr w3 g s (i + runN isBlk s i + runN isLin s (i + runN isBlk s i))) (g3 : w2.grownBy w3 (some g)) :
    Jmp w g s j w3 ∧ i < plc w3 g ∧ plc w3 g ≤ s.size := by
  have e1 := rest_run isBlk s i
  have hle1 := runN_le isBlk s i h2
  have hle2 := runN_le isLin s _ hle1
  rw [e1] at hp
  have h4 : skipL (rest s (i + runN isBlk s i + runN isLin s (i + runN isBlk s i))) = skipL (rest s j) := by
    rw [rest_run, e1, ← skipL_go hp, h3]
  have hd := dash hp
  rw [← e1, ← rest_run, rest_length, rest_length] at hd
  rw [plc_of hR]
  exact ⟨⟨_, by omega, hle2, h4, hR, grownBy_trans (grownBy_trans (grownBy_trans hG g1 (.inl rfl)) g2 (.inl rfl)) g3 (.inl rfl)⟩, by omega, hle2⟩
theorem Jmp.stop {w wr w1 w2 : World} {g : Nat} {s : ByteArray} {j i : Nat} (h1 : j ≤ i) (h2 : i ≤ s.size) (h3 : skipL (rest s i) = skipL (rest s j)) (hG : w.grownBy wr (some g))
    (hp : isPre [45, 45] (rest s (i + runN isBlk s i)) = false) (g1 : wr.grownBy w1 (some g)) (hR : Rdr w2 g s (i + runN isBlk s i)) (g2 : w1.grownBy w2 (some g)) :
    (∃ i, j ≤ i ∧ i ≤ s.size ∧ rest s i = skipL (rest s j) ∧ Rdr w2 g s i) ∧ w.grownBy w2 (some g) := by
  have e1 := rest_run isBlk s i
  have hle1 := runN_le isBlk s i h2
  rw [e1] at hp
  exact ⟨⟨_, by omega, hle1, by rw [e1, ← h3, skipL_stop hp], hR⟩, grownBy_trans (grownBy_trans hG g1 (.inl rfl)) g2 (.inl rfl)⟩

set_option maxHeartbeats 2000000 in
theorem skip_any (g : Nat) (s : ByteArray) (j : Nat) (w : World) (h : Rdr w g s j) (hj : j ≤ s.size) (hs : s.size ≤ maxLen) :
    Calls Tryz.prog 51 #[.pointer (some ⟨g, 0, none⟩)] w fun e w' => e = .returned (.tuple #[]) ∧ (∃ i, j ≤ i ∧ i ≤ s.size ∧ rest s i = skipL (rest s j) ∧ Rdr w' g s i) ∧ w.grownBy w' (some g) := by
  have H := Lib.hid h
  have HJ := Lib.hid hj
  have HS := Lib.hid hs
  clear h hj hs
  go_enter Tryz.func51, Tryz.ntmps51
  go_wp2_with fail
  refine wp_scope_jumps 0 (fun a' w' => Jmp w g s j w' ∧ ∃ (u1 u2 u3 u4 u5 u6 u7 : Value), a' = { tmps := #[.pointer (some ⟨g, 0, none⟩), u1, u2, u3, u4, u5, u6, u7], defers := [] }) (fun _ w' => s.size - plc w' g) rfl ?_ ?_
  · go_wp2_with fail
    go_step3
    go_wp2_with fail
    have hle := runN_le isBlk s j HJ.out
    have HLE := Lib.hid hle
    clear hle
    go_at_call 87
    refine (run_any g 88 isBlk fits20 s j w H.out HJ.out HS.out).mono ?_
    rintro e w1 ⟨rfl, hR1, hG1⟩
    have HR1 := Lib.hid hR1
    have HG1 := Lib.hid hG1
    clear hR1 hG1
    have hb := begins_any g dd s (j + runN isBlk s j) w1 HR1.out HLE.out HS.out
    have hle2 := runN_le isLin s _ HLE.out
    have HLE2 := Lib.hid hle2
    clear hle2
    cases hp : isPre dd.data.toList (rest s (j + runN isBlk s j)) with
    | true =>
      rw [hp] at hb
      have HP := Lib.hid hp
      clear hp
      go_wp2_with fail
      go_at_call 89
      refine hb.mono ?_
      rintro e w2 ⟨rfl, hR2, hG2⟩
      have HR2 := Lib.hid hR2
      have HG2 := Lib.hid hG2
      clear hR2 hG2 hb
      go_wp2_with fail
      go_at_call 87
      refine (run_any g 90 isLin fits22 s _ w2 HR2.out HLE.out HS.out).mono ?_
      rintro e w3 ⟨rfl, hR3, hG3⟩
      have HN := Lib.hid (Jmp.next (Nat.le_refl j) HJ.out rfl (World.grownBy.refl w _) HP.out HG1.out HG2.out hR3 hG3)
      clear hR3 hG3
      go_wp2_with fail
      go_step3
      exact ⟨rfl, HN.out.1, _, _, _, _, _, _, _, rfl⟩
    | false =>
      rw [hp] at hb
      have HP := Lib.hid hp
      clear hp
      go_wp2_with fail
      go_at_call 89
      refine hb.mono ?_
      rintro e w2 ⟨rfl, hR2, hG2⟩
      have HN := Lib.hid (Jmp.stop (Nat.le_refl j) HJ.out rfl (World.grownBy.refl w _) HP.out HG1.out hR2 hG2)
      clear hR2 hG2 hb
      go_wp2_with fail
      simp only [Exit.jump]
      go_end0
      exact ⟨rfl, HN.out⟩
  · rintro a' wr ⟨⟨i, hji, hi, hsk, hRi, hGi⟩, u1, u2, u3, u4, u5, u6, u7, rfl⟩
    have HJI := Lib.hid hji
    have HI := Lib.hid hi
    have HSk := Lib.hid hsk
    have HRi := Lib.hid hRi
    have HGi := Lib.hid hGi
    clear hji hi hsk hRi hGi
    go_wp2_with fail
    have hle := runN_le isBlk s i HI.out
    have HLE := Lib.hid hle
    clear hle
    go_at_call 87
    refine (run_any g 88 isBlk fits20 s i wr HRi.out HI.out HS.out).mono ?_
    rintro e w1 ⟨rfl, hR1, hG1⟩
    have HR1 := Lib.hid hR1
    have HG1 := Lib.hid hG1
    clear hR1 hG1
    have hb := begins_any g dd s (i + runN isBlk s i) w1 HR1.out HLE.out HS.out
    have hle2 := runN_le isLin s _ HLE.out
    have HLE2 := Lib.hid hle2
    clear hle2
    cases hp : isPre dd.data.toList (rest s (i + runN isBlk s i)) with
    | true =>
      rw [hp] at hb
      have HP := Lib.hid hp
      clear hp
      go_wp2_with fail
      go_at_call 89
      refine hb.mono ?_
      rintro e w2 ⟨rfl, hR2, hG2⟩
      have HR2 := Lib.hid hR2
      have HG2 := Lib.hid hG2
      clear hR2 hG2 hb
      go_wp2_with fail
      go_at_call 87
      refine (run_any g 90 isLin fits22 s _ w2 HR2.out HLE.out HS.out).mono ?_
      rintro e w3 ⟨rfl, hR3, hG3⟩
      have HN := Lib.hid (Jmp.next HJI.out HI.out HSk.out HGi.out HP.out HG1.out HG2.out hR3 hG3)
      clear hR3 hG3
      go_wp2_with fail
      go_step3
      exact ⟨rfl, ⟨HN.out.1, _, _, _, _, _, _, _, rfl⟩, by have h1 := HN.out.2; have h2 := plc_of HRi.out; omega⟩
    | false =>
      rw [hp] at hb
      have HP := Lib.hid hp
      clear hp
      go_wp2_with fail
      go_at_call 89
      refine hb.mono ?_
      rintro e w2 ⟨rfl, hR2, hG2⟩
      have HN := Lib.hid (Jmp.stop HJI.out HI.out HSk.out HGi.out HP.out HG1.out hR2 hG2)
      clear hR2 hG2 hb
      go_wp2_with fail
      simp only [Exit.jump]
      go_end0
      exact ⟨rfl, HN.out⟩
end Go.Proofs.YtlehmnbigocgdaaGreatDoor.Lx
