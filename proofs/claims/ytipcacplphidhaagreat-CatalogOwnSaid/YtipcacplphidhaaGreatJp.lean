/- What catalog's areNew answers of columns and of indexes, and what clear makes of the set of names: the walks. Conditions: names that are not too long. -/
import Derived.Test.YtipcacplphidhaaGreatJo
import Derived.Maps.OwnSet
import Derived.Maps.Views
import Derived.StringKeys
namespace Go.Proofs.YtipcacplphidhaaGreat
open Go.RowKit Go.Sort Go.Maps Go.ChangeMaps Go.MapKept Go.WideShapes
set_option linter.unusedSimpArgs false
set_option linter.unusedVariables false

/-- Whether no name of a list stands ahead of its place, or among those that were seen. -/
def newB : List (List UInt8) → List ByteArray → Bool
  | _, [] => true
  | acc, s :: l => if acc.contains s.data.toList = true then false else newB (acc ++ [s.data.toList]) l
theorem newB_drop (acc : List (List UInt8)) (l : List ByteArray) (j : Nat) (hj : j < l.length) : newB acc (l.drop j) = if acc.contains l[j].data.toList = true then false else newB (acc ++ [l[j].data.toList]) (l.drop (j + 1)) := by
  rw [List.drop_eq_getElem_cons hj, newB]
def keys (l : List ByteArray) : List Lit := l.map fun s => .string s.data.toList
def octs (l : List ByteArray) : List (List UInt8) := l.map fun s => s.data.toList
theorem keys_lit (l : List ByteArray) : ∀ x ∈ keys l, WideAt.IsKeyLit x := fun x hx => by
  simp [keys] at hx
  obtain ⟨s, _, rfl⟩ := hx
  trivial
theorem has_keys (l : List ByteArray) (s : List UInt8) : Maps.has (setOf (H := Unit) (.agg []) (keys l)) (.string s) = (octs l).contains s := by
  rw [has_setOf _ _ _ (keys_lit l)]
  induction l with
  | nil => rfl
  | cons a l ih =>
    simp only [keys, octs, List.map_cons, List.any_cons, List.contains_cons] at ih ⊢
    rw [ih, show (Lit.string a.data.toList).sameKey (.string s) = (a.data.toList == s) from rfl, BEq.comm]
theorem keys_take (l : List ByteArray) (j : Nat) (hj : j < l.length) : keys (l.take (j + 1)) = keys (l.take j) ++ [.string l[j].data.toList] := by
  rw [List.take_succ_eq_append_getElem hj]; unfold keys; rw [List.map_append]; rfl
theorem octs_take (l : List ByteArray) (j : Nat) (hj : j < l.length) : octs (l.take (j + 1)) = octs (l.take j) ++ [l[j].data.toList] := by
  rw [List.take_succ_eq_append_getElem hj]; unfold octs; rw [List.map_append]; rfl

theorem keyedS : Keyed Tryz.prog 9 := string_keyed Tryz.underlying9
theorem zeroU (w : World) : (zeroValue 93).run Tryz.prog w = .ok (.agg #[]) w := by kernel_rfl
/-- Block b is a set of names. -/
abbrev IsSet (w : World) (b n : Nat) (D : DataW Unit) : Prop := w.ownsMap Tryz.prog 9 (unitElem (H := Unit)) b n D
theorem grown_below {w w' : World} (h : Below w.heap.size w w') (r : Option Nat) : w.grownBy w' r := ⟨h.os, h.tape, h.output, h.size, fun k hk _ => h.block k hk⟩
theorem set_below {w w' : World} {b n : Nat} {D : DataW Unit} (h : IsSet w b n D) (hb : Below w.heap.size w w') : IsSet w' b n D := h.kept (grown_below hb none) (by simp)
/-- All cells are as they were. -/
def Kp (w w' : World) : Prop := ∀ p v, w.cell? p = some v → w'.cell? p = some v
theorem Kp.of_below {w w' : World} (h : Below w.heap.size w w') : Kp w w' := fun p v hp => (h.cell (cell_lt hp)).trans hp
theorem Kp.trans {a b c : World} (h1 : Kp a b) (h2 : Kp b c) : Kp a c := fun p v hp => h2 p v (h1 p v hp)
theorem Kp.of_set {w w' : World} {b n : Nat} {D : DataW Unit} (hs : IsSet w b n D) (hg : w.grownBy w' (some b)) : Kp w w' := fun p v hp => by
  obtain ⟨es, clock, hm, _⟩ := hs
  have hne : p.block ≠ b := fun e => by
    unfold World.cell? at hp
    rw [e, hm] at hp
    cases hp
  have hb := hg.block p.block (cell_lt hp) (fun e => hne (by injection e))
  unfold World.cell? at hp ⊢
  rw [hb]
  exact hp
theorem RdC.kept {w w' : World} {A : Option Addr} {l : List Cl} (h : RdC w A l) (hk : Kp w w') : RdC w' A l := fun hl => by
  obtain ⟨ad, e, hc⟩ := h hl
  exact ⟨ad, e, fun j x hj => ⟨hk _ _ (hc j x hj).1, hk _ _ (hc j x hj).2.1, hk _ _ (hc j x hj).2.2⟩⟩
theorem RdX.kept {w w' : World} {A : Option Addr} {l : List Ix} (h : RdX w A l) (hk : Kp w w') : RdX w' A l := fun hl => by
  obtain ⟨ad, e, hc⟩ := h hl
  exact ⟨ad, e, fun j x hj => ⟨hk _ _ (hc j x hj).1, hk _ _ (hc j x hj).2⟩⟩
/-- clear of a set. -/
theorem run_clear_set {w : World} {b n : Nat} {D : DataW Unit} (h : IsSet w b n D) : ∃ w', (∀ ty, (Builtin.clear_ #[71] ty #[.map (some b)]).run Tryz.prog w = .ok (.tuple #[]) w') ∧ IsSet w' b 0 (setOf (.agg []) (keys [])) ∧ w.grownBy w' (some b) := by
  obtain ⟨es, clock, hb, F, hs, rfl⟩ := h
  refine ⟨setBlock w b (.map #[] clock), fun ty => ?_, ⟨#[], clock, heap_setBlock_same hb _, ⟨by simp, stamped_empty clock, by simp⟩, by simp, rfl⟩, ⟨rfl, rfl, rfl, by simp [setBlock], fun i _ hi => heap_setBlock_other hb _ (fun e => hi (by rw [e]))⟩⟩
  simp [Builtin.clear_, run_underlying Tryz.underlying71, MapKept.run_getObj_map hb, MapKept.run_setObj_map _ hb, Result.andThen, setBlock]

set_option maxRecDepth 100000 in
set_option maxHeartbeats 8000000 in
theorem newC_any (A : Option Addr) (n c b : Nat) (l : List Cl) (w : World) (hl : n = l.length) (hr : RdC w A l) (hn : l.length ≤ 8) (hm : ∀ x ∈ l, x.m.size ≤ 16) (hset : IsSet w b 0 (setOf (.agg []) (keys []))) :
    Calls Tryz.prog 17 #[.slice A n c, .map (some b), .func (.func 18) #[] #[]] w fun e w' => e = .returned (.bool (newB [] (l.map Cl.m))) ∧ (∃ n' D, IsSet w' b n' D) ∧ w.grownBy w' (some b) := by
  subst hl
  have HR := Lib.hid hr
  have HM := Lib.hid hm
  have HS := Lib.hid hset
  have hml : (l.map Cl.m).length = l.length := by simp
  have HL := Lib.hid hml
  clear hr hm hset hml
  go_enter Tryz.func17, Tryz.ntmps17
  go_wp2
  go_loopw [8, 9, 10, 11, 14, 21, 25, 26] (fun _ _ _ _ i _ _ _ wr => ∃ j : Nat, i = .int .i64 j ∧ j ≤ l.length ∧ IsSet wr b j (setOf (.agg []) (keys ((l.map Cl.m).take j))) ∧ newB [] (l.map Cl.m) = newB (octs ((l.map Cl.m).take j)) ((l.map Cl.m).drop j) ∧ w.grownBy wr (some b)) (fun _ _ _ _ i _ _ _ _ => l.length - (intOf i).toNat)
  case atStart => exact ⟨0, rfl, by omega, HS.out, rfl, grown_refl _ _⟩
  case round =>
    obtain ⟨j, rfl, hj, hS, hI, hG⟩ := hrel
    have HSS := Lib.hid hS
    have HI := Lib.hid hI
    have HG := Lib.hid hG
    clear hS hI hG
    by_cases hlt : j < l.length
    · obtain ⟨ad, rfl, k0, k1, k2⟩ := (HR.out.kept (Kp.of_set HS.out HG.out)).at_ hlt
      have hk0 := cell_lt k0
      have hjm : j < (l.map Cl.m).length := by rw [HL.out]; exact hlt
      have hx16 : l[j].m.size ≤ 16 := HM.out _ (List.getElem_mem hlt)
      have hin := HI.out.trans (newB_drop (octs ((l.map Cl.m).take j)) (l.map Cl.m) j hjm)
      have hmj : (l.map Cl.m)[j] = l[j].m := by simp
      rw [hmj] at hin
      have hkt := keys_take (l.map Cl.m) j hjm
      have hot := octs_take (l.map Cl.m) j hjm
      rw [hmj] at hkt hot
      have hha := has_keys ((l.map Cl.m).take j) l[j].m.data.toList
      clear hmj
      have HIN := Lib.hid hin
      have HKT := Lib.hid hkt
      have HOT := Lib.hid hot
      clear hin hkt hot
      generalize l[j] = x at k0 k1 k2 hx16 HIN HKT HOT hha
      have hkey : keyOf Tryz.prog 9 (.string x.m) = some (.string x.m.data.toList) := Go.WideMaps.keyOf_string_mk Tryz.underlying9 (by unfold maxLen; omega)
      have hnm := fun w => colName_any x w
      generalize hC : (octs ((l.map Cl.m).take j)).contains x.m.data.toList = C at HIN hha
      clear hC
      cases C
      · have HIN2 : Hid (newB [] (l.map Cl.m) = newB (octs ((l.map Cl.m).take (j + 1))) ((l.map Cl.m).drop (j + 1))) := Lib.hid (by rw [HIN.out, if_neg (by simp), HOT.out])
        clear HIN
        go_wp2_with (first
          | (go_at_call 18; refine (hnm _).mono ?_; rintro e w1 ⟨rfl, hb⟩; have hb1 := (below1 wr _).trans (hb.mono (by simp)); have HB1 := Lib.hid hb1; have HS1 := Lib.hid (set_below HSS.out hb1); clear hb hb1)
          | (at_lookup; refine wpList_lookup_own_unit _ rfl _ _ 71 rfl 9 93 keyedS Tryz.underlying71 (zeroU _) b j _ rfl HS1.out _ _ rfl hkey ?_; rw [hha])
          | (at_mapUpdate; refine wpList_mapUpdate_own _ rfl _ _ _ 71 rfl 9 93 keyedS Tryz.underlying71 (unitElem (H := Unit)) b j _ rfl (HS1.out.alloc _) (by unfold maxLen; omega) _ _ _ rfl rfl hkey _ [] unitElem_mk ?_; intro w2 hown2 hgrow2; have HO2 := Lib.hid hown2; have HG2 := Lib.hid hgrow2; clear hown2 hgrow2))
        go_roundw
        case rel => exact ⟨j + 1, by go_num, hlt, by rw [HKT.out, setOf_snoc]; exact HO2.out, HIN2.out, grown_trans HG.out (grown_trans (grown_below HB1.out _) (grown_trans (World.grownBy_alloc _ _ _) HG2.out))⟩
        case measure => simp [intOf]; omega
      · have HIN2 : Hid (newB [] (l.map Cl.m) = false) := Lib.hid (by rw [HIN.out, if_pos rfl])
        clear HIN
        go_wp2_with (first
          | (go_at_call 18; refine (hnm _).mono ?_; rintro e w1 ⟨rfl, hb⟩; have hb1 := (below1 wr _).trans (hb.mono (by simp)); have HB1 := Lib.hid hb1; have HS1 := Lib.hid (set_below HSS.out hb1); clear hb hb1)
          | (at_lookup; refine wpList_lookup_own_unit _ rfl _ _ 71 rfl 9 93 keyedS Tryz.underlying71 (zeroU _) b j _ rfl HS1.out _ _ rfl hkey ?_; rw [hha]))
        go_ret
        exact ⟨ret_bool HIN2.out.symm, ⟨_, _, HS1.out.alloc _⟩, grown_trans HG.out (grown_trans (grown_below HB1.out _) (World.grownBy_alloc _ _ _))⟩
    · have HIN2 : Hid (newB [] (l.map Cl.m) = true) := Lib.hid (by rw [HI.out, List.drop_of_length_le (by rw [HL.out]; omega), newB])
      go_wp2
      go_ret
      exact ⟨ret_bool HIN2.out.symm, ⟨_, _, HSS.out⟩, HG.out⟩

set_option maxRecDepth 100000 in
set_option maxHeartbeats 8000000 in
theorem newX_any (A : Option Addr) (n c b : Nat) (l : List Ix) (w : World) (hl : n = l.length) (hr : RdX w A l) (hn : l.length ≤ 8) (hm : ∀ x ∈ l, x.m.size ≤ 16) (hset : IsSet w b 0 (setOf (.agg []) (keys []))) :
    Calls Tryz.prog 61 #[.slice A n c, .map (some b), .func (.func 62) #[] #[]] w fun e w' => e = .returned (.bool (newB [] (l.map Ix.m))) ∧ (∃ n' D, IsSet w' b n' D) ∧ w.grownBy w' (some b) := by
  subst hl
  have HR := Lib.hid hr
  have HM := Lib.hid hm
  have HS := Lib.hid hset
  have hml : (l.map Ix.m).length = l.length := by simp
  have HL := Lib.hid hml
  clear hr hm hset hml
  go_enter Tryz.func61, Tryz.ntmps61
  go_wp2
  go_loopw [8, 9, 10, 11, 14, 21, 25, 26] (fun _ _ _ _ i _ _ _ wr => ∃ j : Nat, i = .int .i64 j ∧ j ≤ l.length ∧ IsSet wr b j (setOf (.agg []) (keys ((l.map Ix.m).take j))) ∧ newB [] (l.map Ix.m) = newB (octs ((l.map Ix.m).take j)) ((l.map Ix.m).drop j) ∧ w.grownBy wr (some b)) (fun _ _ _ _ i _ _ _ _ => l.length - (intOf i).toNat)
  case atStart => exact ⟨0, rfl, by omega, HS.out, rfl, grown_refl _ _⟩
  case round =>
    obtain ⟨j, rfl, hj, hS, hI, hG⟩ := hrel
    have HSS := Lib.hid hS
    have HI := Lib.hid hI
    have HG := Lib.hid hG
    clear hS hI hG
    by_cases hlt : j < l.length
    · obtain ⟨ad, rfl, k0, k1⟩ := (HR.out.kept (Kp.of_set HS.out HG.out)).at_ hlt
      have hk0 := cell_lt k0
      have hjm : j < (l.map Ix.m).length := by rw [HL.out]; exact hlt
      have hx16 : l[j].m.size ≤ 16 := HM.out _ (List.getElem_mem hlt)
      have hin := HI.out.trans (newB_drop (octs ((l.map Ix.m).take j)) (l.map Ix.m) j hjm)
      have hmj : (l.map Ix.m)[j] = l[j].m := by simp
      rw [hmj] at hin
      have hkt := keys_take (l.map Ix.m) j hjm
      have hot := octs_take (l.map Ix.m) j hjm
      rw [hmj] at hkt hot
      have hha := has_keys ((l.map Ix.m).take j) l[j].m.data.toList
      clear hmj
      have HIN := Lib.hid hin
      have HKT := Lib.hid hkt
      have HOT := Lib.hid hot
      clear hin hkt hot
      generalize l[j] = x at k0 k1 hx16 HIN HKT HOT hha
      have hkey : keyOf Tryz.prog 9 (.string x.m) = some (.string x.m.data.toList) := Go.WideMaps.keyOf_string_mk Tryz.underlying9 (by unfold maxLen; omega)
      have hnm := fun w => ixName_any x w
      generalize hC : (octs ((l.map Ix.m).take j)).contains x.m.data.toList = C at HIN hha
      clear hC
      cases C
      · have HIN2 : Hid (newB [] (l.map Ix.m) = newB (octs ((l.map Ix.m).take (j + 1))) ((l.map Ix.m).drop (j + 1))) := Lib.hid (by rw [HIN.out, if_neg (by simp), HOT.out])
        clear HIN
        go_wp2_with (first
          | (go_at_call 62; refine (hnm _).mono ?_; rintro e w1 ⟨rfl, hb⟩; have hb1 := (below1 wr _).trans (hb.mono (by simp)); have HB1 := Lib.hid hb1; have HS1 := Lib.hid (set_below HSS.out hb1); clear hb hb1)
          | (at_lookup; refine wpList_lookup_own_unit _ rfl _ _ 71 rfl 9 93 keyedS Tryz.underlying71 (zeroU _) b j _ rfl HS1.out _ _ rfl hkey ?_; rw [hha])
          | (at_mapUpdate; refine wpList_mapUpdate_own _ rfl _ _ _ 71 rfl 9 93 keyedS Tryz.underlying71 (unitElem (H := Unit)) b j _ rfl (HS1.out.alloc _) (by unfold maxLen; omega) _ _ _ rfl rfl hkey _ [] unitElem_mk ?_; intro w2 hown2 hgrow2; have HO2 := Lib.hid hown2; have HG2 := Lib.hid hgrow2; clear hown2 hgrow2))
        go_roundw
        case rel => exact ⟨j + 1, by go_num, hlt, by rw [HKT.out, setOf_snoc]; exact HO2.out, HIN2.out, grown_trans HG.out (grown_trans (grown_below HB1.out _) (grown_trans (World.grownBy_alloc _ _ _) HG2.out))⟩
        case measure => simp [intOf]; omega
      · have HIN2 : Hid (newB [] (l.map Ix.m) = false) := Lib.hid (by rw [HIN.out, if_pos rfl])
        clear HIN
        go_wp2_with (first
          | (go_at_call 62; refine (hnm _).mono ?_; rintro e w1 ⟨rfl, hb⟩; have hb1 := (below1 wr _).trans (hb.mono (by simp)); have HB1 := Lib.hid hb1; have HS1 := Lib.hid (set_below HSS.out hb1); clear hb hb1)
          | (at_lookup; refine wpList_lookup_own_unit _ rfl _ _ 71 rfl 9 93 keyedS Tryz.underlying71 (zeroU _) b j _ rfl HS1.out _ _ rfl hkey ?_; rw [hha]))
        go_ret
        exact ⟨ret_bool HIN2.out.symm, ⟨_, _, HS1.out.alloc _⟩, grown_trans HG.out (grown_trans (grown_below HB1.out _) (World.grownBy_alloc _ _ _))⟩
    · have HIN2 : Hid (newB [] (l.map Ix.m) = true) := Lib.hid (by rw [HI.out, List.drop_of_length_le (by rw [HL.out]; omega), newB])
      go_wp2
      go_ret
      exact ⟨ret_bool HIN2.out.symm, ⟨_, _, HSS.out⟩, HG.out⟩
end Go.Proofs.YtipcacplphidhaaGreat
