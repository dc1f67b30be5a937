/- What LexLower answers for any text: the walk. Conditions: strconv.ErrRange holds an error; a text's length as every machine keeps it. -/
import Derived.Test.YtcliineiokgenaaDoorVn
namespace Go.Proofs.YtcliineiokgenaaDoor
open Go.RowKit
set_option linter.unusedSimpArgs false
set_option linter.unusedVariables false

theorem low_low (c : UInt8) : low (low c) = low c := by
  by_cases h : 65 ≤ c.toNat ∧ c.toNat ≤ 90
  · have := low_up h
    exact low_id (by omega)
  · rw [low_id h, low_id h]
theorem ba_ext {x y : ByteArray} (h : x.data.toList = y.data.toList) : x = y := ByteArray.ext (Array.toList_inj.1 h)
theorem lowS_lowS (s : ByteArray) : lowS (lowS s) = lowS s := by
  have h : (lowS (lowS s)).data.toList = (lowS s).data.toList := by
    rw [lowS_list, lowS_list, List.map_map]
    congr 1
    funext c
    exact low_low c
  exact ba_ext h

theorem law_lower (s : ByteArray) (w : World) (hs : s.size ≤ 140737488355328) (hr : Ran w) :
    Calls Tryd.prog 6 #[.string s] w fun e w' => e = .returned (.bool true) ∧ Below w.heap.size w w' := by
  have ha := alive_any w hr
  have h1 := fun w1 => lower_any s w1 hs
  have hk := fun w1 => keyword_any s w1 hs
  have h2 := fun w1 => lower_any (lowS s) w1 (by rw [lowS_size]; exact hs)
  have hk2 := fun w1 => keyword_any (lowS s) w1 (by rw [lowS_size]; exact hs)
  rw [lowS_lowS] at h2 hk2
  have hz := lowS_size s
  generalize lowS s = x at h1 h2 hk hk2 hz
  generalize kwB x = b at hk hk2
  have hzi : ((x.size : Int) == (s.size : Int)) = true := by simp; omega
  have hx2 : x.size ≤ 140737488355328 := by omega
  clear hz hr
  go_enter Tryd.func6, Tryd.ntmps6
  go_wp2_with fail
  go_at_call 7
  refine ha.mono ?_
  rintro e w1 ⟨rfl, hB1⟩
  have HB1 := Lib.hid hB1
  clear hB1 ha
  go_wp2_with fail
  go_at_call 12
  refine (h1 _).mono ?_
  rintro e w2 ⟨rfl, hB2⟩
  have HB2 := Lib.hid (HB1.out.trans (hB2.mono HB1.out.size))
  clear hB2 h1
  go_wp2_with fail
  go_at_call 12
  refine (h2 _).mono ?_
  rintro e w3 ⟨rfl, hB3⟩
  have HB3 := Lib.hid (HB2.out.trans (hB3.mono HB2.out.size))
  clear hB3 h2
  go_wp2_with fail
  go_at_call 13
  refine (hk2 _).mono ?_
  rintro e w4 ⟨rfl, hB4⟩
  have HB4 := Lib.hid (HB3.out.trans (hB4.mono HB3.out.size))
  clear hB4 hk2
  go_wp2_with fail
  go_at_call 13
  refine (hk _).mono ?_
  rintro e w5 ⟨rfl, hB5⟩
  have HB5 := Lib.hid (HB4.out.trans (hB5.mono HB4.out.size))
  clear hB5 hk
  go_wp2_with fail
  go_ret
  exact ⟨rfl, HB5.out⟩
end Go.Proofs.YtcliineiokgenaaDoor
