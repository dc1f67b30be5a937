/- What the reader's quoted does: the walk. Conditions: a reader in a block of its own, ahead of a string's first sign. -/
import Derived.Test.YtlehmnbigocgdaaGreatDoorLvh
namespace Go.Proofs.YtlehmnbigocgdaaGreatDoor.Lx
open Go.RowKit
set_option linter.unusedSimpArgs false
set_option linter.unusedVariables false

theorem bld_grown {B b g : Nat} {bs : List Value} {w w' : World} (h : Lib.IsBuilderF 60 5 B b bs w) (hg : w.grownBy w' (some g)) (hlt : g < B) : Lib.IsBuilderF 60 5 B b bs w' := by
  have key : ∀ p, Lib.BuilderAtF 60 5 B b p bs w → Lib.BuilderAtF 60 5 B b p bs w' := by
    rintro p ⟨hB, v, hb, ho, hne⟩
    have hl : b < w.heap.size := by
      rcases Nat.lt_or_ge b w.heap.size with h' | h'
      · exact h'
      · simp [Array.getElem?_eq_none h'] at hb
    refine ⟨hB, v, (hg.block b hl (by simp; omega)).trans hb, ho.kept hg (.inr fun e => ?_), hne⟩
    have := (ho.lt g e).1
    omega
  rcases h with h | h
  · exact .inl (key _ h)
  · exact .inr (key _ h)
theorem Rdr.bel {w w' : World} {g j b : Nat} {s : ByteArray} (h : Rdr w g s j) (hb : Below b w w') (hg : g < b) : Rdr w' g s j := (hb.block g hg).trans h
theorem Tkr.kept {w w' : World} {b g F c : Nat} (h : Tkr w b g F) (hk : Lib.OthersKept 5 (some c) w w') (h0 : c ≠ b) (h1 : c ≠ b + 1) : Tkr w' b g F := by
  refine ⟨hk _ _ h.c0 (by simp; omega) (by simp), hk _ _ h.c1 (by simp; omega) (by simp), h.ne0, h.ne1⟩

theorem dropWhile_head {p : UInt8 → Bool} : ∀ (l : List UInt8) {c : UInt8} {r : List UInt8}, l.dropWhile p = c :: r → p c = false
  | [], c, r, h => by simp at h
  | d :: l, c, r, h => by
    rw [List.dropWhile_cons] at h
    split at h
    · exact dropWhile_head l h
    · injection h with h1 h2; subst h1; simpa using ‹¬ p d = true›
theorem rest_cons (s : ByteArray) (i : Nat) (h : i < s.size) : rest s i = s[i] :: rest s (i + 1) := drop_cons s i h
theorem rest_end (s : ByteArray) (i : Nat) (h : s.size ≤ i) : rest s i = [] := drop_end s i h
theorem run_stop {p : UInt8 → Bool} {s : ByteArray} {i : Nat} (h : i + runN p s i < s.size) : p (s[i + runN p s i]'h) = false := by
  have h1 := rest_run p s i
  rw [rest_cons s _ h] at h1
  exact dropWhile_head _ h1.symm
def qmap (acc : List UInt8) (q : Option (List UInt8 × List UInt8)) : Option (List UInt8 × List UInt8) := q.map fun x => (acc ++ x.1, x.2)
theorem qmap_run (acc : List UInt8) (s : ByteArray) (i : Nat) : qmap acc (qL (rest s i)) = qmap (acc ++ (rest s i).takeWhile isNqu) (qL (rest s (i + runN isNqu s i))) := by
  unfold qmap
  rw [qL_run (rest s i), rest_run, Option.map_map]
  congr 1
  funext x
  simp
theorem qmap_end (acc : List UInt8) {s : ByteArray} {i : Nat} (h : s.size ≤ i) : qmap acc (qL (rest s i)) = none := by
  rw [rest_end s i h]; rfl
theorem qmap_last (acc : List UInt8) {s : ByteArray} {i : Nat} (h : i < s.size) (hq : isQuo s[i] = true) (h2 : s.size ≤ i + 1) : qmap acc (qL (rest s i)) = some (acc, rest s (i + 1)) := by
  rw [rest_cons s i h, rest_end s (i + 1) h2, qL, if_pos hq]; simp [qmap]
theorem qmap_stop (acc : List UInt8) {s : ByteArray} {i : Nat} (h : i + 1 < s.size) (hq : isQuo s[i] = true) (hq2 : isQuo s[i + 1] = false) : qmap acc (qL (rest s i)) = some (acc, rest s (i + 1)) := by
  rw [rest_cons s i (by omega), rest_cons s (i + 1) h, qL, if_pos hq, if_neg (by simp [hq2])]; simp [qmap]
theorem quo_39 {c : UInt8} (h : isQuo c = true) : c = 39 := by
  simp [isQuo] at h
  exact UInt8.toNat_inj.1 h
theorem qmap_two (acc : List UInt8) {s : ByteArray} {i : Nat} (h : i + 1 < s.size) (hq : isQuo s[i] = true) (hq2 : isQuo s[i + 1] = true) : qmap acc (qL (rest s i)) = qmap (acc ++ [39]) (qL (rest s (i + 1 + 1))) := by
  rw [rest_cons s i (by omega), rest_cons s (i + 1) h, qL, if_pos hq, if_pos hq2, quo_39 hq]
  unfold qmap
  rw [Option.map_map]
  congr 1
  funext x
  simp

structure QS (w wr : World) (g : Nat) (s : ByteArray) (i : Nat) (acc : List UInt8) : Prop where
  bld : Lib.IsBuilderF 60 5 w.heap.size w.heap.size (Lib.byteCells acc) wr
  tkr : Tkr wr (w.heap.size + 1) g 95
  rdr : Rdr wr g s i
  grw : w.grownBy wr (some g)
  glt : g < w.heap.size
theorem QS.read {w wr w1 : World} {g i k : Nat} {s : ByteArray} {acc : List UInt8} (h : QS w wr g s i acc) (hR : Rdr w1 g s k) (hG : wr.grownBy w1 (some g)) : QS w w1 g s k acc :=
  ⟨bld_grown h.bld hG h.glt, h.tkr.grown hG (by simp; have := h.glt; omega) (by simp; have := h.glt; omega), hR, grownBy_trans h.grw hG (.inl rfl), h.glt⟩
theorem QS.put {w wr w1 : World} {g i : Nat} {s : ByteArray} {acc acc' : List UInt8} (h : QS w wr g s i acc) (hb : Lib.BuilderAtF 60 5 w.heap.size w.heap.size (.pointer (some ⟨w.heap.size, 0, none⟩)) (Lib.byteCells acc') w1) (hB : Below w.heap.size wr w1) (hk : Lib.OthersKept 5 (some w.heap.size) wr w1) : QS w w1 g s i acc' :=
  ⟨.inr hb, h.tkr.kept hk (by omega) (by omega), h.rdr.bel hB h.glt, ⟨hB.os.trans h.grw.os, hB.tape.trans h.grw.tape, hB.output.trans h.grw.output, Nat.le_trans h.grw.size hB.size, fun k hk hne => (hB.block k hk).trans (h.grw.block k hk hne)⟩, h.glt⟩

theorem QS.asked {w wr w1 : World} {g i : Nat} {s : ByteArray} {acc : List UInt8} (h : QS w wr g s i acc) (hb : Lib.IsBuilderF 60 5 w.heap.size w.heap.size (Lib.byteCells acc) w1) (hB : Below w.heap.size wr w1) (hk : Lib.OthersKept 5 (some w.heap.size) wr w1) : QS w w1 g s i acc :=
  ⟨hb, h.tkr.kept hk (by omega) (by omega), h.rdr.bel hB h.glt, ⟨hB.os.trans h.grw.os, hB.tape.trans h.grw.tape, hB.output.trans h.grw.output, Nat.le_trans h.grw.size hB.size, fun k hk hne => (hB.block k hk).trans (h.grw.block k hk hne)⟩, h.glt⟩

/-- What quoted answers. -/
def QPost (Q : Option (List UInt8 × List UInt8)) (w : World) (g : Nat) (s : ByteArray) (e : Ending) (w' : World) : Prop :=
  match Q with
  | some (t, r) => e = .returned (.tuple #[.string ⟨t.toArray⟩, .bool (decide (t.length ≤ 64))]) ∧ (∃ i, i ≤ s.size ∧ rest s i = r ∧ Rdr w' g s i) ∧ w.grownBy w' (some g)
  | none => e = .returned (.tuple #[.string ⟨#[]⟩, .bool false]) ∧ w.grownBy w' (some g)
theorem QPost.no {Q : Option (List UInt8 × List UInt8)} (h : Q = none) {w w' : World} {g : Nat} {s : ByteArray} (hG : w.grownBy w' (some g)) : QPost Q w g s (.returned (.tuple #[.string ⟨#[]⟩, .bool false])) w' := by
  subst h; exact ⟨rfl, hG⟩
theorem QPost.yes {Q : Option (List UInt8 × List UInt8)} {t : List UInt8} {s : ByteArray} {i : Nat} (h : Q = some (t, rest s i)) (hi : i ≤ s.size) {b : Bool} (hb : b = decide (t.length ≤ 64)) {w w' : World} {g : Nat} (hR : Rdr w' g s i) (hG : w.grownBy w' (some g)) : QPost Q w g s (.returned (.tuple #[.string ⟨t.toArray⟩, .bool b])) w' := by
  subst h; subst hb; exact ⟨rfl, ⟨i, hi, rfl, hR⟩, hG⟩

set_option maxHeartbeats 4000000 in
theorem quoted_any (g : Nat) (s : ByteArray) (j : Nat) (w : World) (h : Rdr w g s j) (hj : j < s.size) (hq : isQuo s[j] = true) (hs : s.size ≤ 140737488355328) :
    Calls Tryz.prog 96 #[.pointer (some ⟨g, 0, none⟩)] w (QPost (qL (rest s (j + 1))) w g s) := by
  have hmax : s.size ≤ maxLen := by unfold maxLen; omega
  have HM := Lib.hid hmax
  have HS := Lib.hid hs
  have H := Lib.hid h
  have HJ := Lib.hid hj
  have hQ : qL (rest s (j + 1)) = qmap [] (qL (rest s (j + 1))) := by unfold qmap; cases qL (rest s (j + 1)) <;> simp
  generalize hQQ : qL (rest s (j + 1)) = Q
  rw [hQQ] at hQ
  rw [← hQQ] at hQ
  have HQ0 : Hid (Q = qmap [] (qL (rest s (j + 1)))) := by show _ = _; rw [← hQQ]; exact hQ
  have HLT := Lib.hid h.lt
  have htk := taker_any g 95 (w.alloc (.cells #[.pointer none, .slice none 0 0] 60)) (by simp; have := h.lt; omega)
  have hq1 : ∀ w1, Rdr w1 g s j → Tkr w1 (w.heap.size + 1) g 95 → Calls Tryz.prog 134 #[.pointer (some ⟨w.heap.size + 1, 0, none⟩), .pointer (some ⟨w.heap.size + 1 + 1, 0, none⟩)] w1 fun e w' => e = .returned (.bool true) ∧ Rdr w' g s (j + 1) ∧ w1.grownBy w' (some g) := fun w1 h1 h2 =>
    take_yes _ g 95 isQuo fits27 s j w1 h1 h2 HJ.out HM.out hq
  clear hQ hQQ h hmax hs hq hj
  go_enter Tryz.func96, Tryz.ntmps96
  go_wp2_with fail
  go_at_call 118
  refine htk.mono ?_
  rintro e w1 ⟨rfl, hT, hG⟩
  have hQS : QS w w1 g s j [] := by
    have ho : w.grownBy (w.alloc (.cells #[.pointer none, .slice none 0 0] 60)) none := World.grownBy_alloc _ _ none
    refine ⟨?_, by simpa using hT, (H.out.grown ho (by simp)).grown hG (by simp), grown_none (grownBy_trans ho hG (.inl rfl)) _, HLT.out⟩
    have hf := Lib.IsBuilderF.of (Lib.fresh_isBuilder 60 5 w)
    exact bld_grown (g := g) hf (grown_none hG _) HLT.out
  have HT := Lib.hid hT
  have HQS := Lib.hid hQS
  clear hT hG hQS htk
  go_wp2_with fail
  go_at_call 134
  refine (hq1 _ HQS.out.rdr HQS.out.tkr).mono ?_
  rintro e w2 ⟨rfl, hR2, hG2⟩
  have HQ2 := Lib.hid (HQS.out.read hR2 hG2)
  clear hR2 hG2 hq1
  go_wp2_with fail
  go_loopg [11] (s.size - (j + 1)) (fun k _ wr => ∃ (i : Nat) (acc : List UInt8), k = s.size - i ∧ i ≤ s.size ∧ acc.length ≤ i ∧ Q = qmap acc (qL (rest s i)) ∧ QS w wr g s i acc)
  case atStart => exact ⟨j + 1, [], rfl, HJ.out, by simp, HQ0.out, HQ2.out⟩
  case round =>
  clear HQ2 HQS HT HQ0
  obtain ⟨i, acc, hk, hi, ha, hQ, hS⟩ := hrel
  have HK := Lib.hid hk
  have HI := Lib.hid hi
  have HA := Lib.hid ha
  have HQ := Lib.hid hQ
  have HS0 := Lib.hid hS
  clear hk hi ha hQ hS
  have hrun := run_any g 122 isNqu fits38 s i wr HS0.out.rdr HI.out HM.out
  have hle := runN_le isNqu s i HI.out
  have hxs := extract_runN_size isNqu s i HI.out
  have hxd : (s.extract i (i + runN isNqu s i)).data.toList = (rest s i).takeWhile isNqu := extract_runN isNqu s i
  have hQ1 := qmap_run acc s i
  have hst := fun h => @run_stop isNqu s i h
  rw [← HQ.out, ← hxd] at hQ1
  have HKK : Hid (gk = s.size - i) := HK
  generalize s.extract i (i + runN isNqu s i) = x at hrun hxs hxd hQ1
  generalize hn : runN isNqu s i = n at hrun hle hxs hQ1 hst
  have HLE := Lib.hid hle
  have HXS := Lib.hid hxs
  have HQ1 := Lib.hid hQ1
  have HST := Lib.hid hst
  have hxm : x.size ≤ 9223372036854775807 := by have := HS.out; omega
  clear hle hxs hxd hQ1 hn hst
  go_wp2_with fail
  go_at_call 87
  refine hrun.mono ?_
  rintro e w3 ⟨rfl, hR3, hG3⟩
  have HS3 := Lib.hid (HS0.out.read hR3 hG3)
  clear hR3 hG3 hrun
  have hws := writeString_any w.heap.size w.heap.size (Lib.byteCells acc) x w3 HS3.out.bld (by rw [Lib.byteCells_length]; have := HA.out; have := HLE.out; have := HXS.out; have := HS.out; omega) (HS3.out.grw.size)
  rw [Lib.strCells_eq, ← Lib.byteCells_append] at hws
  go_wp2_with fail
  go_at_call 108
  refine hws.mono ?_
  rintro e w4 ⟨rfl, hb4, hB4, hK4⟩
  have HS4 := Lib.hid (HS3.out.put hb4 hB4 hK4)
  clear hb4 hB4 hK4 hws
  generalize hacc : acc ++ x.data.toList = acc1 at HS4
  have HQ4 : Hid (Q = qmap acc1 (qL (rest s (i + n)))) := by show _ = _; rw [← hacc]; exact HQ1.out
  have HL4 : Hid (acc1.length ≤ i + n) := by
    show _ ≤ _
    rw [← hacc, List.length_append]
    have h1 := HA.out; have h2 := HXS.out
    have h3 : x.data.toList.length = x.size := by simp
    omega
  clear hacc HQ1
  rcases Nat.lt_or_ge (i + n) s.size with hlt | hge
  · have hq1 : isQuo s[i + n] = true := by have := HST.out hlt; simpa [isNqu] using this
    have ht1 := take_yes (w.heap.size + 1) g 95 isQuo fits27 s (i + n) w4 HS4.out.rdr HS4.out.tkr hlt HM.out hq1
    have HQ1 := Lib.hid hq1
    clear hq1
    go_wp2_with fail
    go_at_call 134
    refine ht1.mono ?_
    rintro e w5 ⟨rfl, hR5, hG5⟩
    have HS5 := Lib.hid (HS4.out.read hR5 hG5)
    clear hR5 hG5 ht1
    rcases Nat.lt_or_ge (i + n + 1) s.size with hlt2 | hge2
    · cases hq2 : isQuo s[i + n + 1] with
      | true =>
        have ht2 := take_yes (w.heap.size + 1) g 95 isQuo fits27 s (i + n + 1) w5 HS5.out.rdr HS5.out.tkr hlt2 HM.out hq2
        have HX : Hid (Q = qmap (acc1 ++ [39]) (qL (rest s (i + n + 1 + 1)))) := by show _ = _; rw [HQ4.out]; exact qmap_two acc1 hlt2 HQ1.out hq2
        clear hq2
        go_wp2_with fail
        go_at_call 134
        refine ht2.mono ?_
        rintro e w6 ⟨rfl, hR6, hG6⟩
        have HS6 := Lib.hid (HS5.out.read hR6 hG6)
        clear hR6 hG6 ht2
        have hwb := writeByte_any w.heap.size w.heap.size (Lib.byteCells acc1) 39 w6 HS6.out.bld (by rw [Lib.byteCells_length]; have := HL4.out; have := HS.out; omega) (HS6.out.grw.size)
        have hb39 : Lib.byteCells acc1 ++ [Value.int .u8 39] = Lib.byteCells (acc1 ++ [39]) := by rw [Lib.byteCells_append]; rfl
        rw [hb39] at hwb
        go_wp2_with fail
        go_at_call 100
        refine hwb.mono ?_
        rintro e w7 ⟨rfl, hb7, hB7, hK7⟩
        have HS7 := Lib.hid (HS6.out.put hb7 hB7 hK7)
        clear hb7 hB7 hK7 hwb hb39
        go_wp2_with fail
        go_roundg (s.size - (i + n + 1 + 1))
        case measure => rw [HKK.out]; omega
        case rel => exact ⟨i + n + 1 + 1, acc1 ++ [39], rfl, by omega, by have := HL4.out; simp; omega, HX.out, HS7.out⟩
      | false =>
        have ht2 := take_no (w.heap.size + 1) g 95 isQuo fits27 s (i + n + 1) w5 HS5.out.rdr HS5.out.tkr hlt2 HM.out hq2
        have HX : Hid (Q = some (acc1, rest s (i + n + 1))) := by show _ = _; rw [HQ4.out]; exact qmap_stop acc1 hlt2 HQ1.out hq2
        clear hq2
        go_wp2_with fail
        go_at_call 134
        refine ht2.mono ?_
        rintro e w6 ⟨rfl, hR6, hG6⟩
        have HS6 := Lib.hid (HS5.out.read hR6 hG6)
        clear hR6 hG6 ht2
        go_wp2_with fail
        have hst := Tryz.Builder_String_any_k w.heap.size w.heap.size acc1 w6 HS6.out.bld HS6.out.grw.size
        go_at_call 25
        refine hst.mono ?_
        rintro e w7 ⟨rfl, hb7, hB7, hK7⟩
        have HS7 := Lib.hid (HS6.out.asked hb7 hB7 hK7)
        clear hb7 hB7 hK7 hst
        have hln := len_any w.heap.size w.heap.size (Lib.byteCells acc1) w7 HS7.out.bld
        rw [Lib.byteCells_length] at hln
        have hlm : acc1.length ≤ 9223372036854775807 := by have := HL4.out; have := HS.out; omega
        go_wp2_with fail
        go_at_call 123
        refine hln.mono ?_
        rintro e w8 ⟨rfl, rfl⟩
        go_wp2_with fail
        go_ret2
        exact QPost.yes HX.out (by omega) (by rw [Bool.eq_iff_iff]; simp; omega) HS7.out.rdr HS7.out.grw
    · have ht2 : Calls Tryz.prog 134 #[.pointer (some ⟨w.heap.size + 1, 0, none⟩), .pointer (some ⟨w.heap.size + 1 + 1, 0, none⟩)] w5 fun e w' => e = .returned (.bool false) ∧ Rdr w' g s (i + n + 1) ∧ w5.grownBy w' (some g) := by
        have hR := HS5.out.rdr
        have he : i + n + 1 = s.size := by omega
        rw [he] at hR ⊢
        exact take_end (w.heap.size + 1) g 95 s w5 hR HS5.out.tkr
      have HX : Hid (Q = some (acc1, rest s (i + n + 1))) := by show _ = _; rw [HQ4.out]; exact qmap_last acc1 hlt HQ1.out hge2
      go_wp2_with fail
      go_at_call 134
      refine ht2.mono ?_
      rintro e w6 ⟨rfl, hR6, hG6⟩
      have HS6 := Lib.hid (HS5.out.read hR6 hG6)
      clear hR6 hG6 ht2
      go_wp2_with fail
      have hst := Tryz.Builder_String_any_k w.heap.size w.heap.size acc1 w6 HS6.out.bld HS6.out.grw.size
      go_at_call 25
      refine hst.mono ?_
      rintro e w7 ⟨rfl, hb7, hB7, hK7⟩
      have HS7 := Lib.hid (HS6.out.asked hb7 hB7 hK7)
      clear hb7 hB7 hK7 hst
      have hln := len_any w.heap.size w.heap.size (Lib.byteCells acc1) w7 HS7.out.bld
      rw [Lib.byteCells_length] at hln
      have hlm : acc1.length ≤ 9223372036854775807 := by have := HL4.out; have := HS.out; omega
      go_wp2_with fail
      go_at_call 123
      refine hln.mono ?_
      rintro e w8 ⟨rfl, rfl⟩
      go_wp2_with fail
      go_ret2
      exact QPost.yes HX.out (by omega) (by rw [Bool.eq_iff_iff]; simp; omega) HS7.out.rdr HS7.out.grw
  · have ht1 : Calls Tryz.prog 134 #[.pointer (some ⟨w.heap.size + 1, 0, none⟩), .pointer (some ⟨w.heap.size + 1 + 1, 0, none⟩)] w4 fun e w' => e = .returned (.bool false) ∧ Rdr w' g s (i + n) ∧ w4.grownBy w' (some g) := by
      have hR := HS4.out.rdr
      have he : i + n = s.size := by have := HLE.out; omega
      rw [he] at hR ⊢
      exact take_end (w.heap.size + 1) g 95 s w4 hR HS4.out.tkr
    have HX : Hid (Q = none) := by show _ = _; rw [HQ4.out]; exact qmap_end acc1 hge
    go_wp2_with fail
    go_at_call 134
    refine ht1.mono ?_
    rintro e w5 ⟨rfl, hR5, hG5⟩
    have HS5 := Lib.hid (HS4.out.read hR5 hG5)
    clear hR5 hG5 ht1
    go_wp2_with fail
    go_ret2
    exact QPost.no HX.out HS5.out.grw
end Go.Proofs.YtlehmnbigocgdaaGreatDoor.Lx
