/- What QuerySorts answers of any rows, any orders and any limit: true, and all reads as before. Conditions: sizes as the caller's memory has them. -/
import Derived.Test.YtddeaiciochggaaRf
import Derived.Test.YtddeaiciochggaaQj
namespace Go.Proofs.Ytddeaiciochggaa
open Go.RowKit Go.Sort
set_option linter.unusedSimpArgs false
set_option linter.unusedVariables false

/-- The rows and the fault that a sort answers. -/
def ansL (os : List Oq) (ls : List (List Vl)) (k : Int) : List (List Vl) := if allQ os ls = true then limQ k (So.sortL (ltQ os) ls) else []
def ansE (os : List Oq) (ls : List (List Vl)) : Int := if allQ os ls = true then 0 else 4
theorem SrtPost.one {w w' : World} {os : List Oq} {ls : List (List Vl)} {k : Int} {e : Ending} (h : SrtPost w os ls k e w') : ∃ S c, e = .returned (.tuple #[.slice S (ansL os ls k).length c, .int .i64 (ansE os ls)]) ∧ RdR w' S (ansL os ls k) ∧ Below w.heap.size w w' := by
  obtain ⟨h1, h2, h3⟩ := h
  unfold ansL ansE
  cases ha : allQ os ls with
  | true =>
    obtain ⟨S, n, c, rfl, rfl, hr, _⟩ := h1 ha
    exact ⟨S, c, rfl, hr, h3⟩
  | false =>
    exact ⟨none, 0, h2 ha, fun hl => absurd rfl hl, h3⟩
theorem ansL_len (os : List Oq) (ls : List (List Vl)) (k : Int) : (ansL os ls k).length ≤ ls.length := by
  unfold ansL limQ
  have := sortQ_len os ls
  split
  · split
    · rw [List.length_take]; omega
    · omega
  · simp
set_option maxHeartbeats 8000000 in
theorem qs_any (A oA : Option Addr) (c oc : Nat) (ls : List (List Vl)) (os : List Oq) (k : Int) (w : World) (hr : RdR w A ls) (hA : A = none → ls.length = 0) (hn : ls.length * 24 ≤ 140737488355328 - 24) (ho : RdQ w oA os) (hon : os.length ≤ 140737488355328) (hk : k ≤ 9223372036854775807) :
    Calls Try.prog 4 #[.slice A ls.length c, .slice oA os.length oc, .int .i64 k] w fun e w' => e = .returned (.bool true) ∧ Below w.heap.size w w' := by
  have hbds : ∀ r ∈ ls, r.length * 32 ≤ 140737488355328 := fun r hr' => by
    obtain ⟨i, hi, rfl⟩ := List.mem_iff_getElem.1 hr'
    obtain ⟨_, _, _, _, _, _, _, h⟩ := hr.at_ hi
    exact h
  have hle := ansL_len os ls k
  have HC := Lib.hid (copyRows_any A c ls w hr hn)
  have HS := Lib.hid fun (A1 : Option Addr) (c1 : Nat) (W : World) (hb : Below w.heap.size w W) (h : RdR W A1 ls) (h0 : A1 = none → ls.length = 0) => (sort_any A1 oA c1 oc ls os k W h h0 hn (ho.below hb) hon hk).mono fun e w' h => h.one
  have HT := Lib.hid fun (W : World) (hb : Below w.heap.size w W) => (rSort_any A oA c oc ls os k W (hr.below hb) hA hn (ho.below hb) hon hk).mono fun e w' h => SrtPost.one h
  have HE := Lib.hid fun (S T : Option Addr) (cs ct : Nat) (W : World) (h1 : RdR W S (ansL os ls k)) (h2 : RdR W T (ansL os ls k)) => sameRows_eq S T cs ct _ _ W rfl h1 h2 (by omega)
  have HF := Lib.hid fun (A1 : Option Addr) (c1 : Nat) (W : World) (h1 : RdR W A1 ls) (hb : Below w.heap.size w W) => sameRows_eq A1 A c1 c _ _ W rfl h1 (hr.below hb) (by omega)
  have HN := Lib.hid fun e W => num_any e W
  have HL := Lib.hid fun W => alive_any W
  have HBD := Lib.hid hbds
  clear hr hA hn ho hon hk hle hbds
  go_enter Try.func4, Try.ntmps4
  go_upto_region 2 with (go_at_call 14; (with_reducible refine HC.out.mono ?_); rintro e w1 ⟨v, cs, rfl, hF, hb⟩; have HB1 := Lib.hid hb; have HFR := Lib.hid hF; clear hF hb)
  obtain ⟨A1, c1, hv, hr1, hA1⟩ := HFR.out.rd HBD.out
  subst hv
  have HR1 := Lib.hid hr1
  have HA1 := Lib.hid hA1
  clear hr1 hA1 HFR HBD HC
  generalize ansL os ls k = L at *
  generalize ansE os ls = E at *
  go_upto_region 3 with (go_at_call 15; (with_reducible refine (HS.out _ _ _ HB1.out HR1.out HA1.out).mono ?_); rintro e w2 ⟨S, cS, rfl, hr2, hb⟩; have HR2 := Lib.hid hr2; have HB2 := Lib.hid (thn HB1.out hb); have HRa := Lib.hid (HR1.out.below hb); clear hr2 hb)
  go_upto_region 4 with (go_at_call 16; (with_reducible refine (HT.out _ HB2.out).mono ?_); rintro e w3 ⟨T, cT, rfl, hr3, hb⟩; have HR3 := Lib.hid hr3; have HB3 := Lib.hid (thn HB2.out hb); have HRb := Lib.hid (HRa.out.below hb); have HRc := Lib.hid (HR2.out.below hb); clear hr3 hb)
  clear HS HT HR1 HA1 HR2 HRa HB1 HB2
  go_wp2_with (first
    | (go_at_call 17; (with_reducible refine (HE.out _ _ _ _ _ HRc.out HR3.out).mono ?_); rintro e w4 ⟨rfl, hb⟩; have HB4 := Lib.hid (thn HB3.out hb); have HRd := Lib.hid (HRb.out.below hb); clear hb)
    | (go_at_call 17; (with_reducible refine (HF.out _ _ _ HRd.out HB4.out).mono ?_); rintro e w5 ⟨rfl, hb⟩; have HB5 := Lib.hid (thn HB4.out hb); clear hb)
    | (go_at_call 18; (with_reducible refine (HN.out _ _).mono ?_); rintro e w6 ⟨rfl, rfl⟩)
    | (go_at_call 19; (with_reducible refine (HL.out _).mono ?_); rintro e w7 ⟨rfl, hb⟩; have HB7 := Lib.hid (thn HB5.out hb); clear hb))
  go_ret
  exact ⟨rfl, HB7.out⟩
end Go.Proofs.Ytddeaiciochggaa
