/- Rows copied by the statements' own functions: the walks of CopyRow, CopyRows and Copied. Conditions: lists that are read in memory. -/
import Derived.Test.YtddeaiciochggaaQa
import Derived.Laws.AppendOwnNone
namespace Go.Proofs.Ytddeaiciochggaa
open Go.RowKit Go.Sort
set_option linter.unusedSimpArgs false
set_option linter.unusedVariables false

set_option maxHeartbeats 1000000 in
theorem copyRow_any (A : Option Addr) (c : Nat) (r : List Vl) (w : World) (hr : RdL w A r) (hA : A = none → r.length = 0) (hn : r.length * 32 ≤ 140737488355328) :
    Calls Try.prog 36 #[.slice A r.length c] w fun e w' => ∃ v, e = .returned v ∧ OwnV w' w.heap.size v r ∧ Below w.heap.size w w' := by
  obtain ⟨i0, hi, hz0, hz1, hz2⟩ := info_parts Try.infoV
  cases A with
  | none =>
    have h0 : r = [] := List.eq_nil_of_length_eq_zero (hA rfl)
    subst h0
    go_enter Try.func36, Try.ntmps36
    go_wp2
    go_ret
    exact ⟨_, rfl, World.ownsRow_nil _ _ _ _, Below.refl _ _⟩
  | some ad =>
    have HR := Lib.hid hr
    clear hr
    go_enter Try.func36, Try.ntmps36
    go_wp2_with (at_builtin; refine wpList_append_own_at _ rfl _ _ 85 rfl w.heap.size 96 i0 (.agg #[.int .i64 0, .int .i64 0, .string ⟨#[]⟩]) 3 32 Try.underlying85 hi hz0 hz1 hz2 rfl (by decide) _ _ _ rfl (World.ownsRow_nil _ _ _ _) ad r.length c (vals r) rfl ?c0 ?c1 (vals_one r) ?c3 ?c4 ?c5 ?_)
    case c0 => rw [vals_len]
    case c1 => exact HR.out.news
    case c3 => unfold maxLen; omega
    case c4 => omega
    case c5 => simp
    intro v' w' hown hg _ _
    have HOwn := Lib.hid hown
    clear hown
    go_wp2
    go_ret
    refine ⟨_, rfl, by simpa using HOwn.out, (Below.refl _ _).grown hg (by simp) (fun k hk => ?_)⟩
    simp [Value.ownBlock] at hk
set_option maxRecDepth 100000 in
set_option maxHeartbeats 4000000 in
theorem copyRows_any (A : Option Addr) (c : Nat) (ls : List (List Vl)) (w : World) (hr : RdR w A ls) (hn : ls.length * 24 ≤ 140737488355328 - 24) :
    Calls Try.prog 14 #[.slice A ls.length c] w fun e w' => ∃ v cs, e = .returned v ∧ Frs w' w.heap.size v cs ls ∧ Below w.heap.size w w' := by
  obtain ⟨i0, hi, hz0, hz1, hz2⟩ := info_parts Try.infoR
  obtain ⟨i1, hi1, hy0, hy1, hy2⟩ := info_parts Try.infoV
  have HR := Lib.hid hr
  clear hr
  go_enter Try.func14, Try.ntmps14
  go_wp2
  go_loopw [3, 4] (fun v i wr => ∃ (j : Nat) (cs : List Value), i = .int .i64 j ∧ j ≤ ls.length ∧ Frs wr w.heap.size v cs (ls.take j) ∧ Below w.heap.size w wr) (fun v i _ => ls.length - (intOf i).toNat)
  case atStart => exact ⟨0, [], rfl, by omega, ⟨World.ownsRow_nil _ _ _ _, by simp, fun j u r h => by simp at h⟩, Below.refl _ _⟩
  case round =>
    obtain ⟨j, cs, rfl, hj, hF, hB⟩ := hrel
    have HF := Lib.hid hF
    have HB := Lib.hid hB
    clear hF hB
    by_cases hlt : j < ls.length
    · obtain ⟨ad, rB, rc, rfl, q0, qr, qnil, qn⟩ := (HR.out.below HB.out).at_ hlt
      have hq0 := cell_lt q0
      have htk : ls.take (j + 1) = ls.take j ++ [ls[j]] := List.take_succ_eq_append_getElem hlt
      have HTK := Lib.hid htk
      have hlt' : (j : Int) < (ls.length : Int) := by omega
      have hcsl : cs.length ≤ j := by have := HF.out.len; rw [this, List.length_take]; omega
      have hcl := copyRow_any rB rc ls[j] wr qr qnil qn
      clear htk qr qnil
      generalize ls[j] = r at q0 qn HTK hcl
      have HCL := Lib.hid hcl
      clear hcl
      go_wp2_with (first
        | (go_at_call 36; (with_reducible refine HCL.out.mono ?_); rintro e w2 ⟨u, rfl, ho, hb⟩; obtain ⟨A1, c1, rfl⟩ := ownV_form ho; have HO := Lib.hid ho; have HBQ := Lib.hid hb; have HF2 := Lib.hid (HF.out.below hb); have HBW := Lib.hid (HB.out.trans (hb.mono HB.out.size)); clear ho hb)
        | (at_builtin; refine wpList_append_own_at _ rfl _ _ 50 rfl w.heap.size 85 i0 (.slice none 0 0) 1 24 Try.underlying50 hi hz0 hz1 hz2 rfl (by decide) _ _ _ rfl (HF2.out.own.alloc _) ⟨w2.heap.size, 0, none⟩ 1 1 [.slice A1 r.length c1] rfl rfl ?c1 ?c2 ?c3 ?c4 ?c5 ?_))
      case c1 =>
        intro t u ht
        match t, ht with
        | 0, ht => simp at ht; subst ht; rw [add0, cell_last _ _ _ _ _ rfl]; rfl
      case c2 => intro u hu; simp at hu; subst hu; rfl
      case c3 => unfold maxLen; omega
      case c4 => omega
      case c5 => have := HBW.out.size; simp; omega
      intro v' w3 hown hg _ _
      have hown' : Own w3 w.heap.size v' (cs ++ [.slice A1 r.length c1]) := by simpa [Own] using hown
      have HF3 := Lib.hid ((HF2.out.below (below1 w2 _)).more (own_le (own_below HO.out (below1 w2 _)) (by have := HB.out.size; exact this)) hown' hg)
      have HB5 := Lib.hid ((HBW.out.alloc HBW.out.size _).grown hg (by have := HBW.out.size; simp; omega) (fun k hk => (HF2.out.own.lt k hk).1))
      clear hown hown' hg
      go_wp2
      go_roundw
      case rel => exact ⟨j + 1, _, by go_num, hlt, by rw [HTK.out]; exact HF3.out, HB5.out⟩
      case measure => simp [intOf]; omega
    · obtain rfl : j = ls.length := by omega
      have hF2 := HF.out
      rw [List.take_length] at hF2
      have HF2 := Lib.hid hF2
      clear hF2
      go_wp2
      go_ret
      exact ⟨_, cs, rfl, HF2.out, HB.out⟩
set_option maxRecDepth 100000 in
set_option maxHeartbeats 4000000 in
theorem copied_any (A : Option Addr) (c : Nat) (ls : List (List Vl)) (w : World) (hr : RdR w A ls) (hn : ls.length * 24 ≤ 140737488355328 - 24) :
    Calls Try.prog 40 #[.slice A ls.length c] w fun e w' => ∃ v cs, e = .returned v ∧ Frs w' w.heap.size v cs ls ∧ Below w.heap.size w w' := by
  obtain ⟨i0, hi, hz0, hz1, hz2⟩ := info_parts Try.infoR
  obtain ⟨i1, hi1, hy0, hy1, hy2⟩ := info_parts Try.infoV
  have HR := Lib.hid hr
  clear hr
  go_enter Try.func40, Try.ntmps40
  go_wp2
  go_loopw [3, 4] (fun v i wr => ∃ (j : Nat) (cs : List Value), i = .int .i64 j ∧ j ≤ ls.length ∧ Frs wr w.heap.size v cs (ls.take j) ∧ Below w.heap.size w wr) (fun v i _ => ls.length - (intOf i).toNat)
  case atStart => exact ⟨0, [], rfl, by omega, ⟨World.ownsRow_nil _ _ _ _, by simp, fun j u r h => by simp at h⟩, Below.refl _ _⟩
  case round =>
    obtain ⟨j, cs, rfl, hj, hF, hB⟩ := hrel
    have HF := Lib.hid hF
    have HB := Lib.hid hB
    clear hF hB
    by_cases hlt : j < ls.length
    · obtain ⟨ad, rB, rc, rfl, q0, qr, qnil, qn⟩ := (HR.out.below HB.out).at_ hlt
      have hq0 := cell_lt q0
      have htk : ls.take (j + 1) = ls.take j ++ [ls[j]] := List.take_succ_eq_append_getElem hlt
      have HTK := Lib.hid htk
      have hlt' : (j : Int) < (ls.length : Int) := by omega
      have hcsl : cs.length ≤ j := by have := HF.out.len; rw [this, List.length_take]; omega
      clear htk
      generalize ls[j] = r at q0 qn HTK qr qnil
      have HQR := Lib.hid qr
      have HQN := Lib.hid qnil
      clear qr qnil
      cases rB with
      | none =>
        have h0 : r = [] := List.eq_nil_of_length_eq_zero (HQN.out rfl)
        subst h0
        have HF2 := HF
        have HBW := HB
        have HO : Hid (OwnV wr wr.heap.size (.slice none 0 0) []) := Lib.hid (World.ownsRow_nil _ _ _ _)
        go_wp2_with (at_builtin; refine wpList_append_own_at _ rfl (.tmp 12) (.tmp 19) 50 rfl w.heap.size 85 i0 (.slice none 0 0) 1 24 Try.underlying50 hi hz0 hz1 hz2 rfl (by decide) _ _ _ rfl (HF2.out.own.alloc _) ⟨wr.heap.size, 0, none⟩ 1 1 [.slice none 0 0] rfl rfl ?_ ?_ ?_ ?_ ?_ ?_)
        any_goals (first
          | omega
          | (unfold maxLen; omega)
          | (have := HBW.out.size; simp; omega)
          | (intro u hu; simp at hu; subst hu; rfl)
          | rfl
          | (intro t u ht; match t, ht with | 0, ht => (simp at ht; subst ht; rw [add0, cell_last _ _ _ _ _ rfl]; rfl))
          | skip)
        intro v' w3 hown hg _ _
        have hown' : Own w3 w.heap.size v' (cs ++ [.slice none 0 0]) := by simpa [Own] using hown
        have HF3 := Lib.hid ((HF2.out.below (below1 wr _)).more (own_le (own_below HO.out (below1 wr _)) (by have := HB.out.size; exact this)) hown' hg)
        have HB5 := Lib.hid ((HBW.out.alloc HBW.out.size _).grown hg (by have := HBW.out.size; simp; omega) (fun k hk => (HF2.out.own.lt k hk).1))
        clear hown hown' hg
        go_wp2
        go_roundw
        case rel => exact ⟨j + 1, _, by go_num, hlt, by rw [HTK.out]; exact HF3.out, HB5.out⟩
        case measure => simp [intOf]; omega
      | some rd =>
        go_wp2_with (at_builtin; refine wpList_append_own_at _ rfl (.tmp 13) (.tmp 17) 85 rfl wr.heap.size 96 i1 (.agg #[.int .i64 0, .int .i64 0, .string ⟨#[]⟩]) 3 32 Try.underlying85 hi1 hy0 hy1 hy2 rfl (by decide) _ _ _ rfl (World.ownsRow_nil _ _ _ _) rd r.length rc (vals r) rfl ?sb0 ?sb1 (vals_one r) ?sb3 ?sb4 ?sb5 ?_)
        case sb0 => rw [vals_len]
        case sb1 => exact HQR.out.news
        case sb3 => unfold maxLen; omega
        case sb4 => omega
        case sb5 => simp
        intro u w2 hown hg _ _
        have HO : Hid (OwnV w2 wr.heap.size u r) := Lib.hid (by simpa using hown)
        have hbq : Below wr.heap.size wr w2 := (Below.refl _ _).grown hg (by simp) (fun k hk => by simp [Value.ownBlock] at hk)
        have HF2 := Lib.hid (HF.out.below hbq)
        have HBW := Lib.hid (HB.out.trans (hbq.mono HB.out.size))
        obtain ⟨A1, c1, rfl⟩ := ownV_form HO.out
        clear hown hg hbq
        go_wp2_with (at_builtin; refine wpList_append_own_at _ rfl (.tmp 12) (.tmp 19) 50 rfl w.heap.size 85 i0 (.slice none 0 0) 1 24 Try.underlying50 hi hz0 hz1 hz2 rfl (by decide) _ _ _ rfl (HF2.out.own.alloc _) ⟨w2.heap.size, 0, none⟩ 1 1 [.slice A1 r.length c1] rfl rfl ?sd1 ?sd2 ?sd3 ?sd4 ?sd5 ?_)
        case sd1 =>
          intro t u ht
          match t, ht with
          | 0, ht => simp at ht; subst ht; rw [add0, cell_last _ _ _ _ _ rfl]; rfl
        case sd2 => intro u hu; simp at hu; subst hu; rfl
        case sd3 => unfold maxLen; omega
        case sd4 => omega
        case sd5 => have := HBW.out.size; simp; omega
        intro v' w3 hown hg _ _
        have hown' : Own w3 w.heap.size v' (cs ++ [.slice A1 r.length c1]) := by simpa [Own] using hown
        have HF3 := Lib.hid ((HF2.out.below (below1 w2 _)).more (own_le (own_below HO.out (below1 w2 _)) (by have := HB.out.size; exact this)) hown' hg)
        have HB5 := Lib.hid ((HBW.out.alloc HBW.out.size _).grown hg (by have := HBW.out.size; simp; omega) (fun k hk => (HF2.out.own.lt k hk).1))
        clear hown hown' hg
        go_wp2
        go_roundw
        case rel => exact ⟨j + 1, _, by go_num, hlt, by rw [HTK.out]; exact HF3.out, HB5.out⟩
        case measure => simp [intOf]; omega
    · obtain rfl : j = ls.length := by omega
      have hF2 := HF.out
      rw [List.take_length] at hF2
      have HF2 := Lib.hid hF2
      clear hF2
      go_wp2
      go_ret
      exact ⟨_, cs, rfl, HF2.out, HB.out⟩
end Go.Proofs.Ytddeaiciochggaa
