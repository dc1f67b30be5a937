/- What the reader's marked and text answer: the walks. Conditions: a reader in a block of its own. -/
import Derived.Test.YtapichngakcpeaaDb
import Derived.Test.YtapichngakcpeaaVf
import Derived.Deep.LoopGhost
namespace Go.Proofs.Ytapichngakcpeaa
open Go.RowKit
set_option linter.unusedSimpArgs false
set_option linter.unusedVariables false

theorem u8_eq {b c : UInt8} (h : b = c) : ((b.toNat : Int) == c.toNat) = true := by subst h; simp
theorem u8_ne {b c : UInt8} (h : b ≠ c) : ((b.toNat : Int) == c.toNat) = false := by
  simp
  intro e
  exact h (UInt8.toNat_inj.1 (by omega))

/-- The panic of number x. -/
def dies (x : Int) : Ending := .panicked [{ v := .iface 24 (.int .i64 x), recovered := false }]

theorem marked_end (g : Nat) (s : ByteArray) (w : World) (h : Rdr w g s s.size) :
    Calls Try.prog 32 #[.pointer (some ⟨g, 0, none⟩)] w fun e w' => e = .panicked [{ v := .iface 24 (.int .i64 8), recovered := false }] ∧ w.grownBy w' (some g) := by
  go_enter Try.func32, Try.ntmps32
  go_wp2_with (go_at_call 26; refine (octet_end g s _ h).mono ?_; rintro e w1 ⟨rfl, hG⟩)
  exact ⟨rfl, rfl, hG⟩

set_option maxHeartbeats 1000000 in
theorem marked_1 (g : Nat) (s : ByteArray) (j : Nat) (w : World) (h : Rdr w g s j) (hj : j < s.size) (hs : s.size ≤ maxLen) (hd : s[j] = 1) :
    Calls Try.prog 32 #[.pointer (some ⟨g, 0, none⟩)] w fun e w' => e = .returned (.int .u8 0) ∧ Rdr w' g s (j + 1) ∧ w.grownBy w' (some g) := by
  have hc := octet_at g s j w h hj hs
  rw [hd] at hc
  go_enter Try.func32, Try.ntmps32
  go_wp2_with (go_at_call 26; refine hc.mono ?_; rintro e w1 ⟨rfl, hR, hG⟩; have HR := Lib.hid hR; have HG := Lib.hid hG; clear hR hG)
  go_ret
  exact ⟨rfl, HR.out, HG.out⟩

set_option maxHeartbeats 1000000 in
theorem marked_2 (g : Nat) (s : ByteArray) (j : Nat) (w : World) (h : Rdr w g s j) (hj : j < s.size) (hs : s.size ≤ maxLen) (hd : s[j] = 2) :
    Calls Try.prog 32 #[.pointer (some ⟨g, 0, none⟩)] w fun e w' => e = .returned (.int .u8 1) ∧ Rdr w' g s (j + 1) ∧ w.grownBy w' (some g) := by
  have hc := octet_at g s j w h hj hs
  rw [hd] at hc
  go_enter Try.func32, Try.ntmps32
  go_wp2_with (go_at_call 26; refine hc.mono ?_; rintro e w1 ⟨rfl, hR, hG⟩; have HR := Lib.hid hR; have HG := Lib.hid hG; clear hR hG)
  go_ret
  exact ⟨rfl, HR.out, HG.out⟩

set_option maxHeartbeats 1000000 in
theorem marked_bad (g : Nat) (s : ByteArray) (j : Nat) (w : World) (h : Rdr w g s j) (hj : j < s.size) (hs : s.size ≤ maxLen) (h1 : s[j] ≠ 1) (h2 : s[j] ≠ 2) :
    Calls Try.prog 32 #[.pointer (some ⟨g, 0, none⟩)] w fun e w' => e = .panicked [{ v := .iface 24 (.int .i64 1), recovered := false }] ∧ w.grownBy w' (some g) := by
  have t1 : ((s[j].toNat : Int) == 1) = false := u8_ne h1
  have t2 : ((s[j].toNat : Int) == 2) = false := u8_ne h2
  have hc := octet_at g s j w h hj hs
  clear h1 h2
  go_enter Try.func32, Try.ntmps32
  go_wp2_with (go_at_call 26; refine hc.mono ?_; rintro e w1 ⟨rfl, hR, hG⟩; have HR := Lib.hid hR; have HG := Lib.hid hG; clear hR hG)
  exact ⟨rfl, rfl, HG.out⟩

/-- What text answers: the text and the place behind it, or a panic. -/
def TxtPost (R : Except Int (List UInt8 × List UInt8)) (g : Nat) (s : ByteArray) (w : World) (e : Ending) (w' : World) : Prop :=
  match R with
  | .ok (t, r) => e = .returned (.string ⟨t.toArray⟩) ∧ (∃ j, r = s.data.toList.drop j ∧ j ≤ s.size ∧ Rdr w' g s j) ∧ w.grownBy w' (some g)
  | .error x => e = dies x ∧ w.grownBy w' (some g)
theorem TxtPost.err {R : Except Int (List UInt8 × List UInt8)} {x : Int} (h : R = .error x) {g : Nat} {s : ByteArray} {w w' : World} (hg : w.grownBy w' (some g)) : TxtPost R g s w (dies x) w' := by
  subst h; exact ⟨rfl, hg⟩
theorem TxtPost.val {R : Except Int (List UInt8 × List UInt8)} {t : List UInt8} {j : Nat} {s : ByteArray} (h : R = .ok (t, s.data.toList.drop j)) (hj : j ≤ s.size) {g : Nat} {w w' : World} (hr : Rdr w' g s j) (hg : w.grownBy w' (some g)) :
    TxtPost R g s w (.returned (.string ⟨t.toArray⟩)) w' := by
  subst h; exact ⟨rfl, ⟨j, rfl, hj, hr⟩, hg⟩

theorem Rdr.grown {w w' : World} {g j : Nat} {s : ByteArray} {row : Option Nat} (h : Rdr w g s j) (hg : w.grownBy w' row) (hne : row ≠ some g) : Rdr w' g s j :=
  (hg.block g h.lt (fun e => hne e.symm)).trans h
theorem own_ne {base size n g : Nat} {e : TypeId} {v : Value} {xs : List Value} {W : World} (h : W.ownsRow base e size v n xs) (hg : g < base) : v.ownBlock ≠ some g := fun e => by
  have := (h.lt g e).1; omega
theorem own_kept {base size n g : Nat} {e : TypeId} {v : Value} {xs : List Value} {w w' : World} (h : w.ownsRow base e size v n xs) (hg : g < base) (k : w.grownBy w' (some g)) : w'.ownsRow base e size v n xs :=
  h.kept k (.inr (own_ne h hg))
/-- The call's own row is written: of what was there when the call began nothing turns. -/
theorem grown_own {base size n g : Nat} {e : TypeId} {v : Value} {xs : List Value} {w w1 w2 : World} (h : w.grownBy w1 (some g)) (hb : base = w.heap.size) (ho : w1.ownsRow base e size v n xs) (k : w1.grownBy w2 v.ownBlock) : w.grownBy w2 (some g) :=
  grownBy_trans h k (.inr fun i hi => by have := (ho.lt i hi).1; omega)

/-- One round more: the octets acc read so far, the one at hand, and what is still to come. -/
theorem txt_end (acc : List UInt8) (c : UInt8) (h0 : c = 0) (r : List UInt8) : txtD acc (c :: r) = if 64 < acc.length then .error 5 else .ok (acc, r) := by
  rw [txtD_cons, if_pos h0]
theorem txt_plain (acc : List UInt8) (c : UInt8) (h0 : c ≠ 0) (h1 : c ≠ 1) (r : List UInt8) : txtD acc (c :: r) = txtD (app acc c) r := by
  rw [txtD_cons, if_neg h0, if_neg h1]
theorem txt_short (acc : List UInt8) : txtD acc [1] = .error 8 := by
  rw [txtD_cons]; rfl
theorem txt_1 (acc : List UInt8) (r : List UInt8) : txtD acc (1 :: 1 :: r) = txtD (app acc 0) r := by
  rw [txtD_cons]; rfl
theorem txt_2 (acc : List UInt8) (r : List UInt8) : txtD acc (1 :: 2 :: r) = txtD (app acc 1) r := by
  rw [txtD_cons]; rfl
theorem txt_bad (acc : List UInt8) (d : UInt8) (h1 : d ≠ 1) (h2 : d ≠ 2) (r : List UInt8) : txtD acc (1 :: d :: r) = .error 1 := by
  rw [txtD_cons]
  simp [h1, h2]
theorem drop_at (s : ByteArray) (j : Nat) (h : j < s.size) : s.data.toList.drop j = s[j] :: s.data.toList.drop (j + 1) := List.drop_eq_getElem_cons (by simpa using h)
theorem drop_end (s : ByteArray) (j : Nat) (h : s.size ≤ j) : s.data.toList.drop j = [] := List.drop_of_length_le (by simpa using h)

theorem own_form {w : World} {base n : Nat} {v : Value} {xs : List Value} (h : w.ownsRow base 5 1 v n xs) : ∃ A c, v = .slice A n c := by
  rcases h.2 with ⟨rfl, rfl⟩ | ⟨g, cap, cur, rfl, _⟩
  · exact ⟨none, 0, rfl⟩
  · exact ⟨_, cap, rfl⟩
/-- Behind the append of one octet to the call's own row. -/
theorem own_next {w wa w3 : World} {base g j : Nat} {o : Obj} {s : ByteArray} {v v3 : Value} {acc : List UInt8} {x : UInt8} {X : Int} (hb : base = w.heap.size) (hgb : g < base) (hX : X = (x.toNat : Int)) (ho : wa.ownsRow base 5 1 v acc.length (bys acc)) (hr : Rdr wa g s j) (hg : w.grownBy wa (some g))
    (h3 : w3.ownsRow base 5 1 v3 (acc.length + 1) (bys acc ++ [.int .u8 X])) (k3 : (wa.alloc o).grownBy w3 v.ownBlock) :
    w3.ownsRow base 5 1 v3 (acc ++ [x]).length (bys (acc ++ [x])) ∧ Rdr w3 g s j ∧ w.grownBy w3 (some g) := by
  subst hX
  have k4 := grownBy_trans (World.grownBy_alloc wa o v.ownBlock) k3 (.inl rfl)
  refine ⟨by rw [bys_append, List.length_append]; exact h3, hr.grown k4 (own_ne ho hgb), grown_own hg hb ho k4⟩

set_option maxHeartbeats 8000000 in
set_option maxRecDepth 100000 in
theorem text_any (g : Nat) (s : ByteArray) (j : Nat) (w : World) (h : Rdr w g s j) (hj : j ≤ s.size) (hs : s.size ≤ maxLen) :
    Calls Try.prog 28 #[.pointer (some ⟨g, 0, none⟩)] w (TxtPost (txtD [] (s.data.toList.drop j)) g s w) := by
  obtain ⟨i0, hi, hz0, hz1, hz2⟩ := info_parts Try.info5
  have H := Lib.hid h
  have hgw := h.lt
  clear h
  have HS := Lib.hid hs
  clear hs
  generalize hR0 : txtD [] (s.data.toList.drop j) = R
  have HR0 := Lib.hid hR0
  clear hR0
  by_cases hlt0 : j = s.size
  · subst hlt0
    go_enter Try.func28, Try.ntmps28
    go_wp2_with (go_at_call 26; refine (octet_end g s _ H.out).mono ?_; rintro e w1 ⟨rfl, hG⟩; have HG := Lib.hid hG; clear hG)
    exact ⟨rfl, TxtPost.err (by rw [← HR0.out, drop_end s _ (Nat.le_refl _), txtD_nil]) HG.out⟩
  · have hlt : j < s.size := by omega
    clear hlt0
    go_enter Try.func28, Try.ntmps28
    go_wp2_with (go_at_call 26; refine (octet_at g s j _ H.out hlt HS.out).mono ?_; rintro e w1 ⟨rfl, hR, hG⟩; have HR := Lib.hid hR; have HG := Lib.hid hG; clear hR hG)
    go_loopg [3, 4] (s.size - (j + 1)) (fun k v c wr => ∃ (acc : List UInt8) (ch : UInt8) (i : Nat), k = s.size - i ∧ i ≤ s.size ∧ c = .int .u8 (ch.toNat : Int) ∧ acc.length ≤ 65 ∧ R = txtD acc (ch :: s.data.toList.drop i) ∧ wr.ownsRow w.heap.size 5 1 v acc.length (bys acc) ∧ Rdr wr g s i ∧ w.grownBy wr (some g))
    case atStart => exact ⟨[], s[j], j + 1, by omega, by omega, rfl, by simp, by rw [← HR0.out, drop_at s j hlt], World.ownsRow_nil _ _ _ _, HR.out, HG.out⟩
    case round =>
      obtain ⟨acc, ch, i, hk, hi', rfl, ha, hT, hO, hR1, hG1⟩ := hrel
      obtain ⟨A, cp, rfl⟩ := own_form hO
      have HT := Lib.hid hT
      have HO := Lib.hid hO
      have HR1 := Lib.hid hR1
      have HG1 := Lib.hid hG1
      have HK := Lib.hid hk
      clear hT hO hR1 hG1 hk HR HG H
      by_cases c0 : ch = 0
      · have HT0 := Lib.hid (HT.out.trans (txt_end acc ch c0 _))
        subst c0
        have hcv := conv_own HO.out
        by_cases hl : acc.length ≤ 64
        · have HE : Hid (R = .ok (acc, s.data.toList.drop i)) := by
            show _ = _
            rw [HT0.out, if_neg (by omega)]
          go_wp2
          go_ret
          exact TxtPost.val HE.out hi' HR1.out HG1.out
        · have HE : Hid (R = .error 5) := by
            show _ = _
            rw [HT0.out, if_pos (by omega)]
          go_wp2
          exact ⟨rfl, TxtPost.err HE.out HG1.out⟩
      · have t0 : ((ch.toNat : Int) == 0) = false := u8_ne c0
        have C0 := Lib.hid c0
        clear c0
        by_cases c1 : ch = 1
        · subst c1
          clear t0 C0
          by_cases hie : i = s.size
          · have HP : Hid (R = .error 8) := by
              show _ = _
              rw [HT.out, hie, drop_end s _ (Nat.le_refl _), txt_short]
            have HRe : Hid (Rdr wr g s s.size) := by
              have := HR1.out
              rw [hie] at this
              exact this
            clear hie
            go_wp2_with (go_at_call 32; refine (marked_end g s _ HRe.out).mono ?_; rintro e w9 ⟨rfl, hG⟩; have HG9 := Lib.hid hG; clear hG)
            exact ⟨rfl, TxtPost.err HP.out (grownBy_trans HG1.out HG9.out (.inl rfl))⟩
          · have hil : i < s.size := by omega
            clear hie
            have HD := Lib.hid (drop_at s i hil)
            by_cases d1 : s[i] = 1
            · have HD1 := Lib.hid d1
              clear d1
              have HW : Hid (R = txtD (app acc (0)) (s.data.toList.drop (i + 1))) := by
                show _ = _
                rw [HT.out, HD.out, HD1.out, txt_1]
              by_cases hl : acc.length ≤ 64
              · have HA : Hid (app acc (0) = (acc ++ [0])) := by show app acc (0) = _; unfold app; rw [if_pos hl]
                by_cases hp : i + 1 = s.size
                · have HP := Lib.hid hp
                  clear hp
                  go_wp2_with (first | (go_at_call 32; refine (marked_1 g s i _ HR1.out hil HS.out HD1.out).mono ?_; rintro e w2 ⟨rfl, hR2, hG2⟩; have HR2 := Lib.hid hR2; have HO2 := Lib.hid (own_kept HO.out hgw hG2); have HG2 := Lib.hid (grownBy_trans HG1.out hG2 (.inl rfl)); clear hR2 hG2) | (at_builtin; refine wpList_append_own_at _ rfl (.tmp 18) (.tmp 20) 39 rfl w.heap.size 5 i0 (.int .u8 0) 1 1 Try.underlying39 hi hz0 hz1 hz2 rfl (by decide) _ acc.length (bys acc) rfl (HO2.out.alloc _) ⟨w2.heap.size, 0, none⟩ 1 1 [_] rfl rfl (cell_one_new _ _ _) ?c2 ?c3 ?c4 ?c5 ?_))
                  case c2 => intro u hu; simp at hu; subst hu; rfl
                  case c3 => unfold maxLen; omega
                  case c4 => omega
                  case c5 => have := HG2.out.size; go_light; simp; omega
                  intro v3 w3 hown3 hg3 _ _
                  have hN := own_next (x := 0) rfl hgw rfl HO2.out HR2.out HG2.out hown3 hg3
                  have HO9 := Lib.hid hN.1
                  have HR9 := Lib.hid hN.2.1
                  have HG9 := Lib.hid hN.2.2
                  clear hN hown3 hg3
                  go_wp2_with (go_at_call 26; refine (octet_end g s _ (by rw [← HP.out]; exact HR9.out)).mono ?_; rintro e w9 ⟨rfl, hG⟩; have HG9' := Lib.hid hG; clear hG)
                  exact ⟨rfl, TxtPost.err (by rw [HW.out, drop_end s _ (by have := HP.out; omega), txtD_nil]) (grownBy_trans HG9.out HG9'.out (.inl rfl))⟩
                · have hp' : i + 1 < s.size := by omega
                  clear hp
                  go_wp2_with (first | (go_at_call 32; refine (marked_1 g s i _ HR1.out hil HS.out HD1.out).mono ?_; rintro e w2 ⟨rfl, hR2, hG2⟩; have HR2 := Lib.hid hR2; have HO2 := Lib.hid (own_kept HO.out hgw hG2); have HG2 := Lib.hid (grownBy_trans HG1.out hG2 (.inl rfl)); clear hR2 hG2) | (at_builtin; refine wpList_append_own_at _ rfl (.tmp 18) (.tmp 20) 39 rfl w.heap.size 5 i0 (.int .u8 0) 1 1 Try.underlying39 hi hz0 hz1 hz2 rfl (by decide) _ acc.length (bys acc) rfl (HO2.out.alloc _) ⟨w2.heap.size, 0, none⟩ 1 1 [_] rfl rfl (cell_one_new _ _ _) ?c2 ?c3 ?c4 ?c5 ?_))
                  case c2 => intro u hu; simp at hu; subst hu; rfl
                  case c3 => unfold maxLen; omega
                  case c4 => omega
                  case c5 => have := HG2.out.size; go_light; simp; omega
                  intro v3 w3 hown3 hg3 _ _
                  have hN := own_next (x := 0) rfl hgw rfl HO2.out HR2.out HG2.out hown3 hg3
                  have HO9 := Lib.hid hN.1
                  have HR9 := Lib.hid hN.2.1
                  have HG9 := Lib.hid hN.2.2
                  clear hN hown3 hg3
                  go_wp2_with (go_at_call 26; refine (octet_at g s (i + 1) _ HR9.out hp' HS.out).mono ?_; rintro e w9 ⟨rfl, hR9, hG9⟩; have HRX := Lib.hid hR9; have HGX := Lib.hid hG9; clear hR9 hG9)
                  go_roundg (s.size - (i + 1 + 1))
                  case measure => have := HK.out; go_light; omega
                  case rel => exact ⟨(acc ++ [0]), s[i + 1], i + 1 + 1, rfl, by omega, rfl, by simp; omega, by rw [HW.out, HA.out, drop_at s _ hp'], own_kept HO9.out hgw HGX.out, HRX.out, grownBy_trans HG9.out HGX.out (.inl rfl)⟩
              · have HA : Hid (app acc (0) = acc) := by show app acc (0) = _; unfold app; rw [if_neg hl]
                by_cases hp : i + 1 = s.size
                · have HP := Lib.hid hp
                  clear hp
                  go_wp2_with (first | (go_at_call 32; refine (marked_1 g s i _ HR1.out hil HS.out HD1.out).mono ?_; rintro e w2 ⟨rfl, hR2, hG2⟩; have HR2 := Lib.hid hR2; have HO2 := Lib.hid (own_kept HO.out hgw hG2); have HG2 := Lib.hid (grownBy_trans HG1.out hG2 (.inl rfl)); clear hR2 hG2) | (go_at_call 26; refine (octet_end g s _ (by rw [← HP.out]; exact HR2.out)).mono ?_; rintro e w9 ⟨rfl, hG⟩; have HG9' := Lib.hid hG; clear hG))
                  exact ⟨rfl, TxtPost.err (by rw [HW.out, drop_end s _ (by have := HP.out; omega), txtD_nil]) (grownBy_trans HG2.out HG9'.out (.inl rfl))⟩
                · have hp' : i + 1 < s.size := by omega
                  clear hp
                  go_wp2_with (first | (go_at_call 32; refine (marked_1 g s i _ HR1.out hil HS.out HD1.out).mono ?_; rintro e w2 ⟨rfl, hR2, hG2⟩; have HR2 := Lib.hid hR2; have HO2 := Lib.hid (own_kept HO.out hgw hG2); have HG2 := Lib.hid (grownBy_trans HG1.out hG2 (.inl rfl)); clear hR2 hG2) | (go_at_call 26; refine (octet_at g s (i + 1) _ HR2.out hp' HS.out).mono ?_; rintro e w9 ⟨rfl, hR9, hG9⟩; have HRX := Lib.hid hR9; have HGX := Lib.hid hG9; clear hR9 hG9))
                  go_roundg (s.size - (i + 1 + 1))
                  case measure => have := HK.out; go_light; omega
                  case rel => exact ⟨acc, s[i + 1], i + 1 + 1, rfl, by omega, rfl, by omega, by rw [HW.out, HA.out, drop_at s _ hp'], own_kept HO2.out hgw HGX.out, HRX.out, grownBy_trans HG2.out HGX.out (.inl rfl)⟩
            · by_cases d2 : s[i] = 2
              · have HD2 := Lib.hid d2
                clear d2 d1
                have HW : Hid (R = txtD (app acc (1)) (s.data.toList.drop (i + 1))) := by
                  show _ = _
                  rw [HT.out, HD.out, HD2.out, txt_2]
                by_cases hl : acc.length ≤ 64
                · have HA : Hid (app acc (1) = (acc ++ [1])) := by show app acc (1) = _; unfold app; rw [if_pos hl]
                  by_cases hp : i + 1 = s.size
                  · have HP := Lib.hid hp
                    clear hp
                    go_wp2_with (first | (go_at_call 32; refine (marked_2 g s i _ HR1.out hil HS.out HD2.out).mono ?_; rintro e w2 ⟨rfl, hR2, hG2⟩; have HR2 := Lib.hid hR2; have HO2 := Lib.hid (own_kept HO.out hgw hG2); have HG2 := Lib.hid (grownBy_trans HG1.out hG2 (.inl rfl)); clear hR2 hG2) | (at_builtin; refine wpList_append_own_at _ rfl (.tmp 18) (.tmp 20) 39 rfl w.heap.size 5 i0 (.int .u8 0) 1 1 Try.underlying39 hi hz0 hz1 hz2 rfl (by decide) _ acc.length (bys acc) rfl (HO2.out.alloc _) ⟨w2.heap.size, 0, none⟩ 1 1 [_] rfl rfl (cell_one_new _ _ _) ?c2 ?c3 ?c4 ?c5 ?_))
                    case c2 => intro u hu; simp at hu; subst hu; rfl
                    case c3 => unfold maxLen; omega
                    case c4 => omega
                    case c5 => have := HG2.out.size; go_light; simp; omega
                    intro v3 w3 hown3 hg3 _ _
                    have hN := own_next (x := 1) rfl hgw rfl HO2.out HR2.out HG2.out hown3 hg3
                    have HO9 := Lib.hid hN.1
                    have HR9 := Lib.hid hN.2.1
                    have HG9 := Lib.hid hN.2.2
                    clear hN hown3 hg3
                    go_wp2_with (go_at_call 26; refine (octet_end g s _ (by rw [← HP.out]; exact HR9.out)).mono ?_; rintro e w9 ⟨rfl, hG⟩; have HG9' := Lib.hid hG; clear hG)
                    exact ⟨rfl, TxtPost.err (by rw [HW.out, drop_end s _ (by have := HP.out; omega), txtD_nil]) (grownBy_trans HG9.out HG9'.out (.inl rfl))⟩
                  · have hp' : i + 1 < s.size := by omega
                    clear hp
                    go_wp2_with (first | (go_at_call 32; refine (marked_2 g s i _ HR1.out hil HS.out HD2.out).mono ?_; rintro e w2 ⟨rfl, hR2, hG2⟩; have HR2 := Lib.hid hR2; have HO2 := Lib.hid (own_kept HO.out hgw hG2); have HG2 := Lib.hid (grownBy_trans HG1.out hG2 (.inl rfl)); clear hR2 hG2) | (at_builtin; refine wpList_append_own_at _ rfl (.tmp 18) (.tmp 20) 39 rfl w.heap.size 5 i0 (.int .u8 0) 1 1 Try.underlying39 hi hz0 hz1 hz2 rfl (by decide) _ acc.length (bys acc) rfl (HO2.out.alloc _) ⟨w2.heap.size, 0, none⟩ 1 1 [_] rfl rfl (cell_one_new _ _ _) ?c2 ?c3 ?c4 ?c5 ?_))
                    case c2 => intro u hu; simp at hu; subst hu; rfl
                    case c3 => unfold maxLen; omega
                    case c4 => omega
                    case c5 => have := HG2.out.size; go_light; simp; omega
                    intro v3 w3 hown3 hg3 _ _
                    have hN := own_next (x := 1) rfl hgw rfl HO2.out HR2.out HG2.out hown3 hg3
                    have HO9 := Lib.hid hN.1
                    have HR9 := Lib.hid hN.2.1
                    have HG9 := Lib.hid hN.2.2
                    clear hN hown3 hg3
                    go_wp2_with (go_at_call 26; refine (octet_at g s (i + 1) _ HR9.out hp' HS.out).mono ?_; rintro e w9 ⟨rfl, hR9, hG9⟩; have HRX := Lib.hid hR9; have HGX := Lib.hid hG9; clear hR9 hG9)
                    go_roundg (s.size - (i + 1 + 1))
                    case measure => have := HK.out; go_light; omega
                    case rel => exact ⟨(acc ++ [1]), s[i + 1], i + 1 + 1, rfl, by omega, rfl, by simp; omega, by rw [HW.out, HA.out, drop_at s _ hp'], own_kept HO9.out hgw HGX.out, HRX.out, grownBy_trans HG9.out HGX.out (.inl rfl)⟩
                · have HA : Hid (app acc (1) = acc) := by show app acc (1) = _; unfold app; rw [if_neg hl]
                  by_cases hp : i + 1 = s.size
                  · have HP := Lib.hid hp
                    clear hp
                    go_wp2_with (first | (go_at_call 32; refine (marked_2 g s i _ HR1.out hil HS.out HD2.out).mono ?_; rintro e w2 ⟨rfl, hR2, hG2⟩; have HR2 := Lib.hid hR2; have HO2 := Lib.hid (own_kept HO.out hgw hG2); have HG2 := Lib.hid (grownBy_trans HG1.out hG2 (.inl rfl)); clear hR2 hG2) | (go_at_call 26; refine (octet_end g s _ (by rw [← HP.out]; exact HR2.out)).mono ?_; rintro e w9 ⟨rfl, hG⟩; have HG9' := Lib.hid hG; clear hG))
                    exact ⟨rfl, TxtPost.err (by rw [HW.out, drop_end s _ (by have := HP.out; omega), txtD_nil]) (grownBy_trans HG2.out HG9'.out (.inl rfl))⟩
                  · have hp' : i + 1 < s.size := by omega
                    clear hp
                    go_wp2_with (first | (go_at_call 32; refine (marked_2 g s i _ HR1.out hil HS.out HD2.out).mono ?_; rintro e w2 ⟨rfl, hR2, hG2⟩; have HR2 := Lib.hid hR2; have HO2 := Lib.hid (own_kept HO.out hgw hG2); have HG2 := Lib.hid (grownBy_trans HG1.out hG2 (.inl rfl)); clear hR2 hG2) | (go_at_call 26; refine (octet_at g s (i + 1) _ HR2.out hp' HS.out).mono ?_; rintro e w9 ⟨rfl, hR9, hG9⟩; have HRX := Lib.hid hR9; have HGX := Lib.hid hG9; clear hR9 hG9))
                    go_roundg (s.size - (i + 1 + 1))
                    case measure => have := HK.out; go_light; omega
                    case rel => exact ⟨acc, s[i + 1], i + 1 + 1, rfl, by omega, rfl, by omega, by rw [HW.out, HA.out, drop_at s _ hp'], own_kept HO2.out hgw HGX.out, HRX.out, grownBy_trans HG2.out HGX.out (.inl rfl)⟩
              · have HP : Hid (R = .error 1) := by
                  show _ = _
                  rw [HT.out, HD.out, txt_bad _ _ d1 d2]
                go_wp2_with (go_at_call 32; refine (marked_bad g s i _ HR1.out hil HS.out d1 d2).mono ?_; rintro e w9 ⟨rfl, hG⟩; have HG9 := Lib.hid hG; clear hG)
                exact ⟨rfl, TxtPost.err HP.out (grownBy_trans HG1.out HG9.out (.inl rfl))⟩
        · have t1 : ((ch.toNat : Int) == 1) = false := u8_ne c1
          have C1 := Lib.hid c1
          clear c1
          have HW : Hid (R = txtD (app acc (ch)) (s.data.toList.drop (i))) := by
            show _ = _
            rw [HT.out, txt_plain _ _ C0.out C1.out]
          by_cases hl : acc.length ≤ 64
          · have HA : Hid (app acc (ch) = (acc ++ [ch])) := by show app acc (ch) = _; unfold app; rw [if_pos hl]
            by_cases hp : i = s.size
            · have HP := Lib.hid hp
              clear hp
              go_wp2_with (first | (at_builtin; refine wpList_append_own_at _ rfl (.tmp 18) (.tmp 20) 39 rfl w.heap.size 5 i0 (.int .u8 0) 1 1 Try.underlying39 hi hz0 hz1 hz2 rfl (by decide) _ acc.length (bys acc) rfl (HO.out.alloc _) ⟨wr.heap.size, 0, none⟩ 1 1 [_] rfl rfl (cell_one_new _ _ _) ?c2 ?c3 ?c4 ?c5 ?_))
              case c2 => intro u hu; simp at hu; subst hu; rfl
              case c3 => unfold maxLen; omega
              case c4 => omega
              case c5 => have := HG1.out.size; go_light; simp; omega
              intro v3 w3 hown3 hg3 _ _
              have hN := own_next (x := ch) rfl hgw rfl HO.out HR1.out HG1.out hown3 hg3
              have HO9 := Lib.hid hN.1
              have HR9 := Lib.hid hN.2.1
              have HG9 := Lib.hid hN.2.2
              clear hN hown3 hg3
              go_wp2_with (go_at_call 26; refine (octet_end g s _ (by rw [← HP.out]; exact HR9.out)).mono ?_; rintro e w9 ⟨rfl, hG⟩; have HG9' := Lib.hid hG; clear hG)
              exact ⟨rfl, TxtPost.err (by rw [HW.out, drop_end s _ (by have := HP.out; omega), txtD_nil]) (grownBy_trans HG9.out HG9'.out (.inl rfl))⟩
            · have hp' : i < s.size := by omega
              clear hp
              go_wp2_with (first | (at_builtin; refine wpList_append_own_at _ rfl (.tmp 18) (.tmp 20) 39 rfl w.heap.size 5 i0 (.int .u8 0) 1 1 Try.underlying39 hi hz0 hz1 hz2 rfl (by decide) _ acc.length (bys acc) rfl (HO.out.alloc _) ⟨wr.heap.size, 0, none⟩ 1 1 [_] rfl rfl (cell_one_new _ _ _) ?c2 ?c3 ?c4 ?c5 ?_))
              case c2 => intro u hu; simp at hu; subst hu; rfl
              case c3 => unfold maxLen; omega
              case c4 => omega
              case c5 => have := HG1.out.size; go_light; simp; omega
              intro v3 w3 hown3 hg3 _ _
              have hN := own_next (x := ch) rfl hgw rfl HO.out HR1.out HG1.out hown3 hg3
              have HO9 := Lib.hid hN.1
              have HR9 := Lib.hid hN.2.1
              have HG9 := Lib.hid hN.2.2
              clear hN hown3 hg3
              go_wp2_with (go_at_call 26; refine (octet_at g s (i) _ HR9.out hp' HS.out).mono ?_; rintro e w9 ⟨rfl, hR9, hG9⟩; have HRX := Lib.hid hR9; have HGX := Lib.hid hG9; clear hR9 hG9)
              go_roundg (s.size - (i + 1))
              case measure => have := HK.out; go_light; omega
              case rel => exact ⟨(acc ++ [ch]), s[i], i + 1, rfl, by omega, rfl, by simp; omega, by rw [HW.out, HA.out, drop_at s _ hp'], own_kept HO9.out hgw HGX.out, HRX.out, grownBy_trans HG9.out HGX.out (.inl rfl)⟩
          · have HA : Hid (app acc (ch) = acc) := by show app acc (ch) = _; unfold app; rw [if_neg hl]
            by_cases hp : i = s.size
            · have HP := Lib.hid hp
              clear hp
              go_wp2_with (first | (go_at_call 26; refine (octet_end g s _ (by rw [← HP.out]; exact HR1.out)).mono ?_; rintro e w9 ⟨rfl, hG⟩; have HG9' := Lib.hid hG; clear hG))
              exact ⟨rfl, TxtPost.err (by rw [HW.out, drop_end s _ (by have := HP.out; omega), txtD_nil]) (grownBy_trans HG1.out HG9'.out (.inl rfl))⟩
            · have hp' : i < s.size := by omega
              clear hp
              go_wp2_with (first | (go_at_call 26; refine (octet_at g s (i) _ HR1.out hp' HS.out).mono ?_; rintro e w9 ⟨rfl, hR9, hG9⟩; have HRX := Lib.hid hR9; have HGX := Lib.hid hG9; clear hR9 hG9))
              go_roundg (s.size - (i + 1))
              case measure => have := HK.out; go_light; omega
              case rel => exact ⟨acc, s[i], i + 1, rfl, by omega, rfl, by omega, by rw [HW.out, HA.out, drop_at s _ hp'], own_kept HO.out hgw HGX.out, HRX.out, grownBy_trans HG1.out HGX.out (.inl rfl)⟩

end Go.Proofs.Ytapichngakcpeaa
