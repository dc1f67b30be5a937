/- What LexBack answers for any text: the walk. Conditions: strconv.ErrRange holds an error; a text's length as every machine keeps it. -/
import Derived.Test.YtcliineiokgenaaDoorVs
namespace Go.Proofs.YtcliineiokgenaaDoor
open Go.RowKit
set_option linter.unusedSimpArgs false
set_option linter.unusedVariables false

theorem Try.info30 : (Tryd.prog.info? 30).map (fun i => (i.zero, i.size, i.bytes)) = some (some (.agg #[.int .i64 0, .string ⟨#[]⟩, .int .i64 0, .int .i64 0]), 4, 40) := by kernel_rfl

theorem wrt_len {c : UInt8} {k : Nat} {t : List UInt8} {n : Nat} (h : Good c k t n) : (wrt k t n).length ≤ 130 := by
  rcases h with ⟨_, hc, ht, hw, hl⟩ | ⟨_, hn⟩ | ⟨_, hc, hl⟩ | hc | ⟨_, ht, hc⟩
  · simp [wrt]; omega
  · have := decA_len 20 n []; simp [wrt, dec] at *; omega
  · have := esc_len t; simp [wrt]; omega
  · simp [wrt]
  · obtain ⟨d, rfl⟩ := hc; simp [wrt]
theorem textL_len : ∀ (l : List Tok), (∀ t ∈ l, ∃ c, Good c t.k t.t t.n) → (textL l).length ≤ 131 * l.length
  | [], _ => by simp [textL]
  | t :: l, h => by
    obtain ⟨c, hg⟩ := h t (by simp)
    have h1 := wrt_len hg
    have h2 := textL_len l fun u hu => h u (by simp [hu])
    simp [textL]; omega
theorem goods {s : List UInt8} {l : List Tok} (h : Placed s l) : ∀ t ∈ l, ∃ c, Good c t.k t.t t.n := fun t ht => by
  obtain ⟨c, _, hg⟩ := h.all t ht
  exact ⟨c, hg⟩

set_option maxHeartbeats 2000000 in
theorem back_err (s : ByteArray) (a x : Nat) (w : World) (hs : s.size ≤ 140737488355328) (hr : Ran w) (h : lexL s.data.toList = .err a x) :
    Calls Tryd.prog 3 #[.string s] w fun e w' => e = .returned (.bool true) ∧ Below w.heap.size w w' := by
  have hp := lexL_placed s.data.toList
  rw [h] at hp
  obtain ⟨ha, hx⟩ := hp
  have hal := alive_any w hr
  have hlex := fun w1 h1 => lex_err s a x w1 hs h1 h
  have hx1 : ((x : Int) != 0) = true := by simp; omega
  have hx2 : ((x : Int) == 0) = false := by simp; omega
  have hx3 : (x : Int) ≤ 91 := by omega
  have HRan := Lib.hid hr
  clear hr h hx ha hs
  go_enter Tryd.func3, Tryd.ntmps3
  go_wp2_with fail
  go_at_call 7
  refine hal.mono ?_
  rintro e w1 ⟨rfl, hB1⟩
  have HB1 := Lib.hid hB1
  clear hB1 hal
  go_wp2_with fail
  go_at_call 8
  refine (hlex _ (HRan.out.below HB1.out)).mono ?_
  rintro e w2 ⟨rfl, hB2⟩
  have HB2 := Lib.hid (HB1.out.trans (hB2.mono HB1.out.size))
  clear hB2 hlex
  go_wp2_with (go_at_call 9; refine (num_any _ _).mono ?_; rintro e w3 ⟨rfl, rfl⟩)
  go_ret
  exact ⟨rfl, HB2.out⟩

set_option maxHeartbeats 1000000 in
set_option maxRecDepth 100000 in
theorem back_ok (s : ByteArray) (l : List Tok) (w : World) (hs : s.size ≤ 140737488355328) (hr : Ran w) (h : lexL s.data.toList = .ok l) :
    Calls Tryd.prog 3 #[.string s] w fun e w' => e = .returned (.bool true) ∧ Below w.heap.size w w' := by
  obtain ⟨i0, hi, hz0, hz1, hz2⟩ := info_parts Try.info30
  have hp := lexL_placed s.data.toList
  rw [h] at hp
  have HG := Lib.hid (goods hp)
  have hfew := hp.few
  have hal := alive_any w hr
  have hlex := fun w1 h1 => lex_ok s l w1 hs h1 h
  have HRan := Lib.hid hr
  clear hr h hp hs
  go_enter Tryd.func3, Tryd.ntmps3
  go_wp2_with fail
  go_at_call 7
  refine hal.mono ?_
  rintro e w1 ⟨rfl, hB1⟩
  have HB1 := Lib.hid hB1
  clear hB1 hal
  go_wp2_with fail
  go_at_call 8
  refine (hlex _ (HRan.out.below HB1.out)).mono ?_
  rintro e w2 ⟨⟨A, c, rfl, hRd⟩, hB2⟩
  have HB2 := Lib.hid (HB1.out.trans (hB2.mono HB1.out.size))
  have HRd := Lib.hid hRd
  clear hB2 hlex hRd
  go_wp2_with (go_at_call 9; refine (num_any _ _).mono ?_; rintro e w3 ⟨rfl, rfl⟩)
  go_loopw [6, 7, 8] (fun x v i wr => ∃ (k : Nat) (y : ByteArray), k ≤ l.length ∧ i = .int .i64 k ∧ x = .string y ∧ y.data.toList = textL (l.take k) ∧ wr.ownsRow w2.heap.size 30 4 v k (toks (posL 0 (l.take k))) ∧ Below w2.heap.size w2 wr) (fun _ _ i _ => l.length - (intOf i).toNat)
  case atStart => exact ⟨0, ⟨#[]⟩, Nat.zero_le _, rfl, rfl, by simp [textL], World.ownsRow_nil _ _ _ _, Below.refl _ _⟩
  case round =>
    obtain ⟨k, y, hk, rfl, rfl, hy, hown, hB⟩ := hrel
    obtain ⟨A2, c2, rfl⟩ := own_form hown
    have HB := Lib.hid hB
    have HY := Lib.hid hy
    have HOwn := Lib.hid hown
    have hyz : y.size ≤ 131 * l.length := by
      rw [← bsize, hy]
      have h1 := textL_len (l.take k) fun t ht => HG.out t (List.mem_of_mem_take ht)
      rw [List.length_take] at h1
      have : 131 * min k l.length ≤ 131 * l.length := by omega
      omega
    clear hB hy hown
    rcases Nat.lt_or_ge k l.length with hlt | hge
    · obtain ⟨ad, rfl, hb, k0, k1, k2, k3⟩ := (HRd.out.below HB.out).at_ (j := k) hlt
      have htk : l.take (k + 1) = l.take k ++ [l[k]] := List.take_succ_eq_append_getElem hlt
      obtain ⟨c0, hg⟩ := HG.out l[k] (List.getElem_mem hlt)
      generalize l[k] = t at k0 k1 k2 k3 htk hg
      obtain ⟨kk, tt, nn, aa⟩ := t
      simp only at k0 k1 k2 k3 hg
      have HTK := Lib.hid htk
      have hwr := fun (a : Int) (w : World) => written_any c0 kk tt nn hg a w
      have hwl := wrt_len hg
      have HWL := Lib.hid hwl
      clear htk hg hwl
      go_wp2_with (at_builtin; refine wpList_append_own_at _ rfl (.tmp 40) (.tmp 42) 28 rfl w2.heap.size 30 i0 (.agg #[.int .i64 0, .string ⟨#[]⟩, .int .i64 0, .int .i64 0]) 4 40 Tryd.underlying28 hi hz0 hz1 hz2 rfl (by decide) _ k (toks (posL 0 (l.take k))) rfl ((HOwn.out.alloc _).alloc _) ⟨wr.heap.size + 1, 0, none⟩ 1 1 [.int .i64 kk, .string ⟨tt.toArray⟩, .int .i64 nn, .int .i64 y.size] rfl rfl ?c1 ?c2 ?c3 ?c4 ?c5 ?_)
      case c1 => exact fun j1 u hj1 => by simpa using cells_new (wr.alloc (.cells #[.int .i64 kk, .string ⟨tt.toArray⟩, .int .i64 nn, .int .i64 y.size] 30)) [.int .i64 kk, .string ⟨tt.toArray⟩, .int .i64 nn, .int .i64 y.size] 30 j1 u hj1
      case c2 => intro u hu; simp at hu; rcases hu with rfl | rfl | rfl | rfl <;> rfl
      case c3 => unfold maxLen; omega
      case c4 => omega
      case c5 => have := HB.out.size; simp; omega
      intro v3 w3 hown3 hg3 _ _
      have ht0 : Tk0 (wr.alloc (.cells #[.int .i64 kk, .string ⟨tt.toArray⟩, .int .i64 nn, .int .i64 y.size] 30)) wr.heap.size kk ⟨tt.toArray⟩ nn y.size := heap_alloc_new wr _
      have ht1 : Tk0 ((wr.alloc (.cells #[.int .i64 kk, .string ⟨tt.toArray⟩, .int .i64 nn, .int .i64 y.size] 30)).alloc (.cells #[.int .i64 kk, .string ⟨tt.toArray⟩, .int .i64 nn, .int .i64 y.size] 30)) wr.heap.size kk ⟨tt.toArray⟩ nn y.size := (World.grownBy_alloc (wr.alloc (.cells #[.int .i64 kk, .string ⟨tt.toArray⟩, .int .i64 nn, .int .i64 y.size] 30)) (.cells #[.int .i64 kk, .string ⟨tt.toArray⟩, .int .i64 nn, .int .i64 y.size] 30) none).block _ (by simp) (by simp) |>.trans ht0
      have hnb : (Value.slice A2 k c2).ownBlock ≠ some wr.heap.size := fun e => by have := (HOwn.out.lt _ e).2; omega
      have ht3 : Tk0 w3 wr.heap.size kk ⟨tt.toArray⟩ nn y.size := (hg3.block _ (by simp; omega) (fun e => hnb e.symm)).trans ht1
      have hB3 : Below w2.heap.size w2 w3 := ((HB.out.alloc HB.out.size _).alloc (by have := HB.out.size; simp; omega) _).grown hg3 (by have := HB.out.size; simp; omega) (fun j hj => (HOwn.out.lt j hj).1)
      obtain ⟨A3, c3, rfl⟩ := own_form hown3
      have HOwn3 := Lib.hid hown3
      have HB3 := Lib.hid hB3
      obtain ⟨b0, b1, b2, b3, _⟩ := ht3.cells
      clear ht0 ht1 hnb ht3 hB3 hown3 hg3 k0 k1 k2 k3
      have hcl := hwr (y.size : Int) w3
      go_wp2_with fail
      go_at_call 10
      refine hcl.mono ?_
      rintro e w4 ⟨⟨z, rfl, hz⟩, hB4⟩
      have hzs : z.size ≤ 130 := by rw [← bsize, hz]; exact HWL.out
      have HOwn4 := Lib.hid (HOwn3.out.kept (below_grown hB4 none) (by cases hv : (Value.slice A3 (k + 1) c3).ownBlock <;> simp))
      have HB4 := Lib.hid (HB3.out.trans (hB4.mono HB3.out.size))
      have HZ := Lib.hid hz
      clear hB4 hz hcl hwr b0 b1 b2 b3
      go_wp2_with fail
      go_roundw
      case rel =>
        refine ⟨k + 1, _, hlt, by go_num, rfl, ?_, ?_, HB4.out⟩
        · rw [HTK.out, textL_snoc, alist, alist, HY.out, HZ.out]
        · have h1 := HOwn4.out
          rw [HTK.out, posL_snoc, toks_snoc, Nat.zero_add, ← HY.out, bsize]
          exact h1
      case measure => simp [intOf]; omega
    · obtain rfl : k = l.length := by omega
      have HY2 : Hid (y.data.toList = textL l) := by show _ = _; rw [HY.out, List.take_of_length_le (Nat.le_refl _)]
      have hown2 := HOwn.out
      rw [List.take_of_length_le (Nat.le_refl _)] at hown2
      obtain ⟨A4, c4, e4, hne, hRW⟩ := RdT_own hown2
      clear hne
      injection e4 with e5 e6 e7
      subst e5 e7
      have HRW := Lib.hid hRW
      clear hown2 hRW e6
      by_cases hbig : y.size > 2048
      · have d1 : decide ((2048 : Int) < (y.size : Int)) = true := by simp; omega
        clear hbig
        go_wp2_with fail
        go_ret
        exact ⟨rfl, HB2.out.trans (HB.out.mono HB2.out.size)⟩
      · have d1 : decide ((2048 : Int) < (y.size : Int)) = false := by simp; omega
        have hyl : lexL y.data.toList = .ok (posL 0 l) := by
          rw [HY2.out]
          exact lexL_text l HG.out hfew (by rw [← HY2.out, bsize]; omega)
        have hlex2 := fun w1 h1 => lex_ok y (posL 0 l) w1 (by omega) h1 hyl
        rw [posL_len] at hlex2
        have HRan2 := Lib.hid ((HRan.out.below HB2.out).below (HB.out.mono (Nat.le_refl _)))
        have HBB := Lib.hid (HB2.out.trans (HB.out.mono HB2.out.size))
        clear hbig hyl
        go_wp2_with fail
        go_at_call 8
        refine (hlex2 _ HRan2.out).mono ?_
        rintro e w5 ⟨⟨A5, c5, rfl, hR5⟩, hB5⟩
        have hsm := same_any A5 A2 c5 c2 (posL 0 l) w5 (by rw [posL_len]; exact hfew) hR5 ((HRW.out.below hB5).more hB5.size)
        rw [posL_len] at hsm
        have HB5 := Lib.hid (HBB.out.trans (hB5.mono HBB.out.size))
        clear hB5 hR5 hlex2
        go_wp2_with (first | (go_at_call 9; refine (num_any _ _).mono ?_; rintro e w6 ⟨rfl, rfl⟩) | (go_at_call 11; refine hsm.mono ?_; rintro e w7 ⟨rfl, hB7⟩))
        go_ret
        exact ⟨rfl, HB5.out.trans ((by assumption : Below w5.heap.size w5 _).mono HB5.out.size)⟩

theorem law_back (s : ByteArray) (w : World) (hs : s.size ≤ 140737488355328) (hr : Ran w) :
    Calls Tryd.prog 3 #[.string s] w fun e w' => e = .returned (.bool true) ∧ Below w.heap.size w w' := by
  cases h : lexL s.data.toList with
  | ok l => exact back_ok s l w hs hr h
  | err a x => exact back_err s a x w hs hr h
end Go.Proofs.YtcliineiokgenaaDoor
