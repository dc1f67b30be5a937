/- What areNew answers of indexes, where names were seen ahead: the walk. Conditions: names that are not too long, and not too many. -/
import Derived.Test.YtddeaiciochggaaNa
namespace Go.Proofs.Ytddeaiciochggaa
open Go.RowKit Go.Sort Go.Maps Go.ChangeMaps Go.MapKept Go.WideShapes
set_option linter.unusedSimpArgs false
set_option linter.unusedVariables false

set_option maxRecDepth 100000 in
set_option maxHeartbeats 8000000 in
theorem newX_acc (A : Option Addr) (n c b : Nat) (l : List Ix) (acc : List ByteArray) (w : World) (hl : n = l.length) (hr : RdX w A l) (hn : l.length ≤ 8) (hna : acc.length ≤ 100) (hm : ∀ x ∈ l, x.m.size ≤ 16) (hset : IsSet w b acc.length (setOf (.agg []) (keys acc))) :
    Calls Try.prog 59 #[.slice A n c, .map (some b), .func (.func 60) #[] #[]] w fun e w' => e = .returned (.bool (newB (octs acc) (l.map Ix.m))) ∧ (∃ n' D, IsSet w' b n' D) ∧ (newB (octs acc) (l.map Ix.m) = true → IsSet w' b (acc ++ l.map Ix.m).length (setOf (.agg []) (keys (acc ++ l.map Ix.m)))) ∧ w.grownBy w' (some b) := by
  subst hl
  have HR := Lib.hid hr
  have HM := Lib.hid hm
  have HS := Lib.hid hset
  have hml : (l.map Ix.m).length = l.length := by simp
  have HL := Lib.hid hml
  clear hr hm hset hml
  go_enter Try.func59, Try.ntmps59
  go_wp2
  go_loopw [8, 9, 10, 11, 14, 21, 25, 26] (fun _ _ _ _ i _ _ _ wr => ∃ j : Nat, i = .int .i64 j ∧ j ≤ l.length ∧ IsSet wr b (acc.length + j) (setOf (.agg []) (keys (acc ++ (l.map Ix.m).take j))) ∧ newB (octs acc) (l.map Ix.m) = newB (octs (acc ++ (l.map Ix.m).take j)) ((l.map Ix.m).drop j) ∧ w.grownBy wr (some b)) (fun _ _ _ _ i _ _ _ _ => l.length - (intOf i).toNat)
  case atStart => exact ⟨0, rfl, by omega, by simpa using HS.out, by simp, grown_refl _ _⟩
  case round =>
    obtain ⟨j, rfl, hj, hS, hI, hG⟩ := hrel
    have HSS := Lib.hid hS
    have HI := Lib.hid hI
    have HG := Lib.hid hG
    clear hS hI hG
    by_cases hlt : j < l.length
    · obtain ⟨ad, rfl, k0, k1⟩ := (HR.out.kept (Kp.of_set HS.out HG.out)).at_ hlt
      have hk0 := cell_lt k0
      have hjm : j < (l.map Ix.m).length := by rw [HL.out]; exact hlt
      have hx16 : l[j].m.size ≤ 16 := HM.out _ (List.getElem_mem hlt)
      have hin := HI.out.trans (newB_drop (octs (acc ++ (l.map Ix.m).take j)) (l.map Ix.m) j hjm)
      have hmj : (l.map Ix.m)[j] = l[j].m := by simp
      rw [hmj] at hin
      have hkt : keys (acc ++ (l.map Ix.m).take (j + 1)) = keys (acc ++ (l.map Ix.m).take j) ++ [.string (l.map Ix.m)[j].data.toList] := by rw [keys_append, keys_append, keys_take _ _ hjm, List.append_assoc]
      have hot : octs (acc ++ (l.map Ix.m).take (j + 1)) = octs (acc ++ (l.map Ix.m).take j) ++ [(l.map Ix.m)[j].data.toList] := by rw [octs_append, octs_append, octs_take _ _ hjm, List.append_assoc]
      rw [hmj] at hkt hot
      have hha := has_keys (acc ++ (l.map Ix.m).take j) l[j].m.data.toList
      clear hmj
      have HIN := Lib.hid hin
      have HKT := Lib.hid hkt
      have HOT := Lib.hid hot
      clear hin hkt hot
      generalize l[j] = x at k0 k1 hx16 HIN HKT HOT hha
      have hkey : keyOf Try.prog 9 (.string x.m) = some (.string x.m.data.toList) := Go.WideMaps.keyOf_string_mk Try.underlying9 (by unfold maxLen; omega)
      have hnm := fun w => ixName_any x w
      generalize hC : (octs (acc ++ (l.map Ix.m).take j)).contains x.m.data.toList = C at HIN hha
      clear hC
      cases C
      · have HIN2 : Hid (newB (octs acc) (l.map Ix.m) = newB (octs (acc ++ (l.map Ix.m).take (j + 1))) ((l.map Ix.m).drop (j + 1))) := Lib.hid (by rw [HIN.out, if_neg (by simp), HOT.out])
        clear HIN
        go_wp2_with (first
          | (go_at_call 60; refine (hnm _).mono ?_; rintro e w1 ⟨rfl, hb⟩; have hb1 := (below1 wr _).trans (hb.mono (by simp)); have HB1 := Lib.hid hb1; have HS1 := Lib.hid (set_below HSS.out hb1); clear hb hb1)
          | (at_lookup; refine wpList_lookup_own_unit _ rfl _ _ 65 rfl 9 103 keyedS Try.underlying65 (zeroU _) b (acc.length + j) _ rfl HS1.out _ _ rfl hkey ?_; rw [hha])
          | (at_mapUpdate; refine wpList_mapUpdate_own _ rfl _ _ _ 65 rfl 9 103 keyedS Try.underlying65 (unitElem (H := Unit)) b (acc.length + j) _ rfl (HS1.out.alloc _) (by unfold maxLen; omega) _ _ _ rfl rfl hkey _ [] unitElem_mk ?_; intro w2 hown2 hgrow2; have HO2 := Lib.hid hown2; have HG2 := Lib.hid hgrow2; clear hown2 hgrow2))
        go_roundw
        case rel => exact ⟨j + 1, by go_num, hlt, by rw [HKT.out, setOf_snoc]; exact HO2.out, HIN2.out, grown_trans HG.out (grown_trans (grown_below HB1.out _) (grown_trans (World.grownBy_alloc _ _ _) HG2.out))⟩
        case measure => simp [intOf]; omega
      · have HIN2 : Hid (newB (octs acc) (l.map Ix.m) = false) := Lib.hid (by rw [HIN.out, if_pos rfl])
        clear HIN
        go_wp2_with (first
          | (go_at_call 60; refine (hnm _).mono ?_; rintro e w1 ⟨rfl, hb⟩; have hb1 := (below1 wr _).trans (hb.mono (by simp)); have HB1 := Lib.hid hb1; have HS1 := Lib.hid (set_below HSS.out hb1); clear hb hb1)
          | (at_lookup; refine wpList_lookup_own_unit _ rfl _ _ 65 rfl 9 103 keyedS Try.underlying65 (zeroU _) b (acc.length + j) _ rfl HS1.out _ _ rfl hkey ?_; rw [hha]))
        go_ret
        exact ⟨ret_bool HIN2.out.symm, ⟨_, _, HS1.out.alloc _⟩, (fun h => by rw [HIN2.out] at h; cases h), grown_trans HG.out (grown_trans (grown_below HB1.out _) (World.grownBy_alloc _ _ _))⟩
    · have HIN2 : Hid (newB (octs acc) (l.map Ix.m) = true) := Lib.hid (by rw [HI.out, List.drop_of_length_le (by rw [HL.out]; omega), newB])
      go_wp2
      go_ret
      exact ⟨ret_bool HIN2.out.symm, ⟨_, _, HSS.out⟩, (fun _ => by have := HSS.out; rw [List.take_of_length_le (by rw [HL.out]; omega), show j = l.length by omega] at this; rw [List.length_append, HL.out]; exact this), HG.out⟩
end Go.Proofs.Ytddeaiciochggaa
