/- Where a table's name stands in a catalog: the walks of slices.BinarySearchFunc, placeOf and Find. Conditions: tables that are read in memory; for placeOf by their names, rising, and few. -/
import Derived.Test.YtipcacplphidhaaGreatJx
/- Catalogs: lists of tables, how they lie in memory, and which may be: plain mathematics. Conditions: none. -/
namespace Go.Proofs.YtipcacplphidhaaGreat
open Go.RowKit Go.Sort Go.Maps
set_option linter.unusedSimpArgs false
set_option linter.unusedVariables false

/-- A table's slices read as its lists. -/
structure TdOk (w : World) (t : Tb) (cA iA : Option Addr) (cc ic : Nat) : Prop where
  c : RdC w cA t.cols
  x : RdX w iA t.idx
  cn : cA = none → t.cols.length = 0 ∧ cc = 0
  xn : iA = none → t.idx.length = 0 ∧ ic = 0
  cb : t.cols.length * 32 ≤ 140737488355328
  xb : t.idx.length * 24 ≤ 140737488355328 - 24
theorem TdOk.kept {w w' : World} {t : Tb} {cA iA : Option Addr} {cc ic : Nat} (h : TdOk w t cA iA cc ic) (hk : Kp w w') : TdOk w' t cA iA cc ic := ⟨h.c.kept hk, h.x.kept hk, h.cn, h.xn, h.cb, h.xb⟩
theorem TdOk.below {w w' : World} {t : Tb} {cA iA : Option Addr} {cc ic : Nat} (h : TdOk w t cA iA cc ic) (hb : Below w.heap.size w w') : TdOk w' t cA iA cc ic := h.kept (Kp.of_below hb)
/-- The four cells of a table at p. -/
def CellT (w : World) (p : Addr) (t : Tb) : Prop := ∃ (cA iA : Option Addr) (cc ic : Nat), w.cell? p = some (.string t.m) ∧ w.cell? ⟨p.block, p.off + 1, none⟩ = some (.slice cA t.cols.length cc) ∧ w.cell? ⟨p.block, p.off + 2, none⟩ = some (.int .i64 t.key) ∧ w.cell? ⟨p.block, p.off + 3, none⟩ = some (.slice iA t.idx.length ic) ∧ TdOk w t cA iA cc ic
theorem CellT.kept {w w' : World} {p : Addr} {t : Tb} (h : CellT w p t) (hk : Kp w w') : CellT w' p t := by
  obtain ⟨cA, iA, cc, ic, h0, h1, h2, h3, h4⟩ := h
  exact ⟨cA, iA, cc, ic, hk _ _ h0, hk _ _ h1, hk _ _ h2, hk _ _ h3, h4.kept hk⟩
/-- The slice at A reads as the tables ls. -/
def RdS (w : World) (A : Option Addr) (ls : List Tb) : Prop := ls ≠ [] → ∃ ad, A = some ad ∧ ∀ j t, ls[j]? = some t → CellT w (ad.add (j * 4)) t
theorem RdS.kept {w w' : World} {A : Option Addr} {ls : List Tb} (h : RdS w A ls) (hk : Kp w w') : RdS w' A ls := fun hl => by
  obtain ⟨ad, e, hc⟩ := h hl
  exact ⟨ad, e, fun j t hj => (hc j t hj).kept hk⟩
theorem RdS.below {w w' : World} {A : Option Addr} {ls : List Tb} (h : RdS w A ls) (hb : Below w.heap.size w w') : RdS w' A ls := h.kept (Kp.of_below hb)
theorem RdS.at_ {w : World} {A : Option Addr} {ls : List Tb} {j : Nat} (h : RdS w A ls) (hj : j < ls.length) : ∃ ad, A = some ad ∧ CellT w (ad.add (j * 4)) ls[j] := by
  obtain ⟨ad, e, hc⟩ := h (by intro e; subst e; simp at hj)
  exact ⟨ad, e, hc _ _ (List.getElem?_eq_getElem hj)⟩

def lessB (a b : ByteArray) : Bool := Op.bytesLess a.toList b.toList
/-- Whether the table at a place comes behind the one ahead of it. -/
def risAt (ls : List Tb) (j : Nat) : Bool := match j with
  | 0 => true
  | i + 1 => match ls[i]?, ls[i + 1]? with
    | some a, some b => lessB a.m b.m
    | _, _ => true
def mayAt (ls : List Tb) (j : Nat) : Bool := match ls[j]? with
  | some t => tblB t
  | none => true
def names (ls : List Tb) : List ByteArray := ls.flatMap fun t => t.idx.map Ix.m
/-- Whether a catalog may be. -/
def catB (ls : List Tb) : Bool := decide (ls.length ≤ 8) && ((List.range ls.length).all (fun j => risAt ls j && mayAt ls j) && newB [] (names ls))
theorem all_range {p : Nat → Bool} {n : Nat} (h : ∀ k, k < n → p k = true) : (List.range n).all p = true := by
  rw [List.all_eq_true]
  intro k hk
  exact h k (by simpa using hk)
theorem not_all_range {p : Nat → Bool} {n j : Nat} (hj : j < n) (h : p j = false) : (List.range n).all p = false := by
  rw [Bool.eq_false_iff]
  intro h2
  have := List.all_eq_true.1 h2 j (by simpa using hj)
  rw [h] at this; cases this
theorem newB_append : ∀ (l m : List ByteArray) (acc : List (List UInt8)), newB acc (l ++ m) = (newB acc l && newB (acc ++ octs l) m)
  | [], m, acc => by simp [newB, octs]
  | s :: l, m, acc => by
    rw [List.cons_append, newB, newB]
    split
    · rfl
    · rw [newB_append l m]
      simp [octs]
theorem newB_names {ls : List Tb} {j : Nat} (hj : j < ls.length) (acc : List (List UInt8)) : newB acc (names (ls.drop j)) = (newB acc (ls[j].idx.map Ix.m) && newB (acc ++ octs (ls[j].idx.map Ix.m)) (names (ls.drop (j + 1)))) := by
  rw [List.drop_eq_getElem_cons hj]
  unfold names
  rw [List.flatMap_cons, newB_append]
theorem names_take {ls : List Tb} {j : Nat} (hj : j < ls.length) : names (ls.take (j + 1)) = names (ls.take j) ++ ls[j].idx.map Ix.m := by
  unfold names
  rw [List.take_succ_eq_append_getElem hj, List.flatMap_append]
  simp
theorem octs_append (l m : List ByteArray) : octs (l ++ m) = octs l ++ octs m := by simp [octs]
theorem keys_append (l m : List ByteArray) : keys (l ++ m) = keys l ++ keys m := by simp [keys]
theorem names_len {ls : List Tb} (h : ∀ t ∈ ls, t.idx.length ≤ 4) : (names ls).length ≤ ls.length * 4 := by
  induction ls with
  | nil => simp [names]
  | cons t ls ih =>
    have h1 := h t (by simp)
    have h2 := ih (fun x hx => h x (by simp [hx]))
    simp only [names, List.flatMap_cons, List.length_append, List.length_map, List.length_cons] at h2 ⊢
    omega
theorem mayAt_get {ls : List Tb} {j : Nat} (hj : j < ls.length) : mayAt ls j = tblB ls[j] := by
  unfold mayAt
  rw [List.getElem?_eq_getElem hj]
theorem catB_all {ls : List Tb} (h : ∀ k, k < ls.length → mayAt ls k = true) : ∀ t ∈ ls, tblB t = true := fun t ht => by
  obtain ⟨j, hj, rfl⟩ := List.mem_iff_getElem.1 ht
  rw [← mayAt_get hj]
  exact h j hj
end Go.Proofs.YtipcacplphidhaaGreat
/- What areNew answers of indexes, where names were seen ahead: the walk. Conditions: names that are not too long, and not too many. -/
namespace Go.Proofs.YtipcacplphidhaaGreat
open Go.RowKit Go.Sort Go.Maps Go.ChangeMaps Go.MapKept Go.WideShapes
set_option linter.unusedSimpArgs false
set_option linter.unusedVariables false

set_option maxRecDepth 100000 in
set_option maxHeartbeats 8000000 in
theorem newX_acc (A : Option Addr) (n c b : Nat) (l : List Ix) (acc : List ByteArray) (w : World) (hl : n = l.length) (hr : RdX w A l) (hn : l.length ≤ 8) (hna : acc.length ≤ 100) (hm : ∀ x ∈ l, x.m.size ≤ 16) (hset : IsSet w b acc.length (setOf (.agg []) (keys acc))) :
    Calls Tryz.prog 61 #[.slice A n c, .map (some b), .func (.func 62) #[] #[]] w fun e w' => e = .returned (.bool (newB (octs acc) (l.map Ix.m))) ∧ (∃ n' D, IsSet w' b n' D) ∧ (newB (octs acc) (l.map Ix.m) = true → IsSet w' b (acc ++ l.map Ix.m).length (setOf (.agg []) (keys (acc ++ l.map Ix.m)))) ∧ w.grownBy w' (some b) := by
  subst hl
  have HR := Lib.hid hr
  have HM := Lib.hid hm
  have HS := Lib.hid hset
  have hml : (l.map Ix.m).length = l.length := by simp
  have HL := Lib.hid hml
  clear hr hm hset hml
  go_enter Tryz.func61, Tryz.ntmps61
  go_wp2
  go_loopw [8, 9, 10, 11, 14, 21, 25, 26] (fun _ _ _ _ i _ _ _ wr => ∃ j : Nat, i = .int .i64 j ∧ j ≤ l.length ∧ IsSet wr b (acc.length + j) (setOf (.agg []) (keys (acc ++ (l.map Ix.m).take j))) ∧ newB (octs acc) (l.map Ix.m) = newB (octs (acc ++ (l.map Ix.m).take j)) ((l.map Ix.m).drop j) ∧ w.grownBy wr (some b)) (fun _ _ _ _ i _ _ _ _ => l.length - (intOf i).toNat)
  case atStart => exact ⟨0, rfl, by omega, by simpa using HS.out, by simp, grown_refl _ _⟩
  case round =>
    obtain ⟨j, rfl, hj, hS, hI, hG⟩ := hrel
    have HSS := Lib.hid hS
    have HI := Lib.hid hI
    have HG := Lib.hid hG
    clear hS hI hG
    by_cases hlt : j < l.length
    · obtain ⟨ad, rfl, k0, k1⟩ := (HR.out.kept (Kp.of_set HS.out HG.out)).at_ hlt
      have hk0 := cell_lt k0
      have hjm : j < (l.map Ix.m).length := by rw [HL.out]; exact hlt
      have hx16 : l[j].m.size ≤ 16 := HM.out _ (List.getElem_mem hlt)
      have hin := HI.out.trans (newB_drop (octs (acc ++ (l.map Ix.m).take j)) (l.map Ix.m) j hjm)
      have hmj : (l.map Ix.m)[j] = l[j].m := by simp
      rw [hmj] at hin
      have hkt : keys (acc ++ (l.map Ix.m).take (j + 1)) = keys (acc ++ (l.map Ix.m).take j) ++ [.string (l.map Ix.m)[j].data.toList] := by rw [keys_append, keys_append, keys_take _ _ hjm, List.append_assoc]
      have hot : octs (acc ++ (l.map Ix.m).take (j + 1)) = octs (acc ++ (l.map Ix.m).take j) ++ [(l.map Ix.m)[j].data.toList] := by rw [octs_append, octs_append, octs_take _ _ hjm, List.append_assoc]
      rw [hmj] at hkt hot
      have hha := has_keys (acc ++ (l.map Ix.m).take j) l[j].m.data.toList
      clear hmj
      have HIN := Lib.hid hin
      have HKT := Lib.hid hkt
      have HOT := Lib.hid hot
      clear hin hkt hot
      generalize l[j] = x at k0 k1 hx16 HIN HKT HOT hha
      have hkey : keyOf Tryz.prog 9 (.string x.m) = some (.string x.m.data.toList) := Go.WideMaps.keyOf_string_mk Tryz.underlying9 (by unfold maxLen; omega)
      have hnm := fun w => ixName_any x w
      generalize hC : (octs (acc ++ (l.map Ix.m).take j)).contains x.m.data.toList = C at HIN hha
      clear hC
      cases C
      · have HIN2 : Hid (newB (octs acc) (l.map Ix.m) = newB (octs (acc ++ (l.map Ix.m).take (j + 1))) ((l.map Ix.m).drop (j + 1))) := Lib.hid (by rw [HIN.out, if_neg (by simp), HOT.out])
        clear HIN
        go_wp2_with (first
          | (go_at_call 62; refine (hnm _).mono ?_; rintro e w1 ⟨rfl, hb⟩; have hb1 := (below1 wr _).trans (hb.mono (by simp)); have HB1 := Lib.hid hb1; have HS1 := Lib.hid (set_below HSS.out hb1); clear hb hb1)
          | (at_lookup; refine wpList_lookup_own_unit _ rfl _ _ 71 rfl 9 93 keyedS Tryz.underlying71 (zeroU _) b (acc.length + j) _ rfl HS1.out _ _ rfl hkey ?_; rw [hha])
          | (at_mapUpdate; refine wpList_mapUpdate_own _ rfl _ _ _ 71 rfl 9 93 keyedS Tryz.underlying71 (unitElem (H := Unit)) b (acc.length + j) _ rfl (HS1.out.alloc _) (by unfold maxLen; omega) _ _ _ rfl rfl hkey _ [] unitElem_mk ?_; intro w2 hown2 hgrow2; have HO2 := Lib.hid hown2; have HG2 := Lib.hid hgrow2; clear hown2 hgrow2))
        go_roundw
        case rel => exact ⟨j + 1, by go_num, hlt, by rw [HKT.out, setOf_snoc]; exact HO2.out, HIN2.out, grown_trans HG.out (grown_trans (grown_below HB1.out _) (grown_trans (World.grownBy_alloc _ _ _) HG2.out))⟩
        case measure => simp [intOf]; omega
      · have HIN2 : Hid (newB (octs acc) (l.map Ix.m) = false) := Lib.hid (by rw [HIN.out, if_pos rfl])
        clear HIN
        go_wp2_with (first
          | (go_at_call 62; refine (hnm _).mono ?_; rintro e w1 ⟨rfl, hb⟩; have hb1 := (below1 wr _).trans (hb.mono (by simp)); have HB1 := Lib.hid hb1; have HS1 := Lib.hid (set_below HSS.out hb1); clear hb hb1)
          | (at_lookup; refine wpList_lookup_own_unit _ rfl _ _ 71 rfl 9 93 keyedS Tryz.underlying71 (zeroU _) b (acc.length + j) _ rfl HS1.out _ _ rfl hkey ?_; rw [hha]))
        go_ret
        exact ⟨ret_bool HIN2.out.symm, ⟨_, _, HS1.out.alloc _⟩, (fun h => by rw [HIN2.out] at h; cases h), grown_trans HG.out (grown_trans (grown_below HB1.out _) (World.grownBy_alloc _ _ _))⟩
    · have HIN2 : Hid (newB (octs acc) (l.map Ix.m) = true) := Lib.hid (by rw [HI.out, List.drop_of_length_le (by rw [HL.out]; omega), newB])
      go_wp2
      go_ret
      exact ⟨ret_bool HIN2.out.symm, ⟨_, _, HSS.out⟩, (fun _ => by have := HSS.out; rw [List.take_of_length_le (by rw [HL.out]; omega), show j = l.length by omega] at this; rw [List.length_append, HL.out]; exact this), HG.out⟩
end Go.Proofs.YtipcacplphidhaaGreat
/- Which catalogs may be: the walks of mayBe and Check. Conditions: tables that are read in memory. -/
namespace Go.Proofs.YtipcacplphidhaaGreat
open Go.RowKit Go.Sort Go.Maps
set_option linter.unusedSimpArgs false
set_option linter.unusedVariables false

theorem tblB_few {ls : List Tb} (h : ∀ t ∈ ls, tblB t = true) (h8 : ls.length ≤ 8) (j : Nat) : (names (ls.take j)).length ≤ 100 := by
  have h1 := names_len (ls := ls.take j) (fun t ht => (tblB_idx (h t (List.mem_of_mem_take ht))).2.1)
  have h2 : (ls.take j).length ≤ 8 := by rw [List.length_take]; omega
  omega
theorem isSet_any {w : World} {b n : Nat} {D : DataW Unit} (h : IsSet w b n D) : ∃ n D, IsSet w b n D := ⟨n, D, h⟩
theorem risAt_succ {ls : List Tb} {i : Nat} (hi : i + 1 < ls.length) : risAt ls (i + 1) = lessB ls[i].m ls[i + 1].m := by
  simp only [risAt, List.getElem?_eq_getElem (show i < ls.length by omega), List.getElem?_eq_getElem hi]
theorem cell_of_box {w w' : World} {b : Nat} {v : Value} {T : TypeId} (hb : b = w.heap.size) (h : Below (w.alloc (.cells #[v] T)).heap.size (w.alloc (.cells #[v] T)) w') : w'.cell? ⟨b, 0, none⟩ = some v := by
  subst hb
  rw [h.cell (p := ⟨w.heap.size, 0, none⟩) (by simp), cell_last _ _ _ _ _ rfl]; rfl

set_option maxRecDepth 100000 in
set_option maxHeartbeats 8000000 in
theorem mayBe_any6 (A : Option Addr) (n c : Nat) (ls : List Tb) (w : World) (hl : n = ls.length) (hr : RdS w A ls) (hn : ls.length ≤ 9223372036854775807) :
    Calls Tryz.prog 48 #[.agg #[.slice A n c]] w fun e w' => e = .returned (.bool (catB ls)) ∧ Below w.heap.size w w' := by
  subst hl
  have HR := Lib.hid hr
  clear hr
  have s0 : (w.alloc (.cells #[.slice A ls.length c] 35)).cell? ⟨w.heap.size, 0, none⟩ = some (.slice A ls.length c) := by rw [cell_last _ _ _ _ _ rfl]; rfl
  by_cases h8 : 8 < ls.length
  · have hi : (8 : Int) < (ls.length : Int) := by omega
    have hz : catB ls = false := by unfold catB; simp; omega
    rw [hz]
    clear hz
    go_enter Tryz.func48, Tryz.ntmps48
    go_wp2
    go_ret
    exact ⟨rfl, below1 _ _⟩
  have hi : ¬ (8 : Int) < (ls.length : Int) := by omega
  have hmm := @run_makeMap Tryz.prog
  have hcat : catB ls = ((List.range ls.length).all (fun j => risAt ls j && mayAt ls j) && newB [] (names ls)) := by unfold catB; rw [decide_eq_true (by omega), Bool.true_and]
  rw [hcat]
  clear hcat
  go_enter Tryz.func48, Tryz.ntmps48
  go_upto_region 4 with fail
  have hB2 : Below w.heap.size w ((w.alloc (.cells #[.slice A ls.length c] 35)).alloc (.map #[] 0)) := (below1 w _).alloc (by simp) _
  have hS2 : IsSet ((w.alloc (.cells #[.slice A ls.length c] 35)).alloc (.map #[] 0)) (w.heap.size + 1) 0 (.map []) := by
    have h := World.ownsMap_made (w.alloc (.cells #[.slice A ls.length c] 35)) Tryz.prog 9 (unitElem (H := Unit))
    rwa [World.size_alloc] at h
  have s2 : ((w.alloc (.cells #[.slice A ls.length c] 35)).alloc (.map #[] 0)).cell? ⟨w.heap.size, 0, none⟩ = some (.slice A ls.length c) := by
    rw [(below1 _ _).cell (p := ⟨w.heap.size, 0, none⟩) (by simp)]; exact s0
  have HB2 := Lib.hid hB2
  have HS2 := Lib.hid hS2
  clear hB2 hS2 s0
  generalize (w.alloc (.cells #[.slice A ls.length c] 35)).alloc (.map #[] 0) = w2 at HB2 HS2 s2 ⊢
  have HS0 := Lib.hid s2
  go_wp2
  go_loopw [4, 5, 6, 17] (fun _ _ _ i wr => ∃ j : Nat, i = .int .i64 j ∧ j ≤ ls.length ∧ (∀ k, k < j → (risAt ls k && mayAt ls k) = true) ∧ (∃ n D, IsSet wr (w.heap.size + 1) n D) ∧ w2.grownBy wr (some (w.heap.size + 1))) (fun _ _ _ i _ => ls.length - (intOf i).toNat)
  case atStart => exact ⟨0, rfl, by omega, fun k hk => absurd hk (by omega), ⟨_, _, HS2.out⟩, grown_refl _ _⟩
  case round =>
    obtain ⟨j, rfl, hj, hM, hS, hG⟩ := hrel
    have hk2 : Kp w wr := (Kp.of_below HB2.out).trans (Kp.of_set HS2.out hG)
    have HK2 := Lib.hid hk2
    have HM := Lib.hid hM
    have HSS := Lib.hid hS
    have HG := Lib.hid hG
    have r0 := (Kp.of_set HS2.out hG) _ _ HS0.out
    have hbw : Below w.heap.size w wr := HB2.out.grown hG HB2.out.size (fun k hk => by injection hk with hk; omega)
    have HBW := Lib.hid hbw
    clear hM hS hG hk2 s2 hbw
    by_cases hlt : j < ls.length
    · obtain ⟨ad, rfl, cA, iA, cc, ic, k0, k1, k2, k3, hT⟩ := (HR.out.kept HK2.out).at_ hlt
      have HT := Lib.hid hT
      have hjl : (j : Int) < (ls.length : Int) := by omega
      have hhz : w.heap.size + 1 < wr.heap.size := by
        obtain ⟨_, _, _, _, hm, _⟩ := HSS.out
        exact (Array.getElem?_eq_some_iff.1 hm).1
      clear hT
      go_upto_region 7 with fail
      have hX := Box4.new wr ls[j].m cA ls[j].cols.length cc ls[j].key iA ls[j].idx.length ic 46
      have ha := below1 wr (.cells #[.string ls[j].m, .slice cA ls[j].cols.length cc, .int .i64 ls[j].key, .slice iA ls[j].idx.length ic] 46)
      have HX := Lib.hid hX
      have HAB := Lib.hid ha
      have HSA : Hid (∃ n D, IsSet (wr.alloc (.cells #[.string ls[j].m, .slice cA ls[j].cols.length cc, .int .i64 ls[j].key, .slice iA ls[j].idx.length ic] 46)) (w.heap.size + 1) n D) := Lib.hid (by obtain ⟨n, D, h⟩ := HSS.out; exact ⟨n, D, h.alloc _⟩)
      have r1 := (Kp.of_below ha) _ _ r0
      have hka := HK2.out.trans (Kp.of_below ha)
      have HKA := Lib.hid hka
      have HGA := Lib.hid (grown_trans HG.out (grown_below ha (some (w.heap.size + 1))))
      have HBA := Lib.hid (HBW.out.trans (ha.mono HBW.out.size))
      have HTA := Lib.hid (HT.out.below ha)
      clear hX ha k0 k1 k2 k3 r0 hka
      generalize wr.alloc (.cells #[.string ls[j].m, .slice cA ls[j].cols.length cc, .int .i64 ls[j].key, .slice iA ls[j].idx.length ic] 46) = wa at *
      generalize wr.heap.size = tb at *
      have R1 := Lib.hid r1
      go_cut [6] (fun v wx => v = .bool (risAt ls j) ∧ Below wa.heap.size wa wx)
      case first =>
        cases j with
        | zero =>
          refine wp_region_quiet_below (by kernel_rfl) (by kernel_rfl) ?_
          repeat (go_big_quiet_step (fail))
          refine wpQuiet_nil ?_
          intro w5 hw5
          obtain ⟨pp, rfl⟩ := hw5
          have hb5 := below_regrown wa pp.d pp.os
          go_wp2_with fail
          go_meet
          exact ⟨rfl, hb5⟩
        | succ i =>
          obtain ⟨ad2, e2, _, _, _, _, p0, _, _, _, _⟩ := (HR.out.kept HKA.out).at_ (show i < ls.length by omega)
          injection e2 with e2
          subst e2
          obtain ⟨x0, _, _, _⟩ := HX.out
          have hris := risAt_succ hlt
          have p0r := cell_regrown p0
          have x0r := cell_regrown x0
          have r1r := cell_regrown r1
          have hil : (i : Int) < (ls.length : Int) := by omega
          have hil2 : (i : Int) + 1 < (ls.length : Int) := by omega
          have hz0 : ((i : Int) + 1 == 0) = false := by
            rw [beq_eq_false_iff_ne]; omega
          have hw1 : (i : Int) + 1 - 1 = i := by omega
          clear p0 x0 r1
          refine wp_region_quiet_below (by kernel_rfl) (by kernel_rfl) ?_
          repeat (go_big_quiet_step (fail))
          refine wpQuiet_nil ?_
          intro w5 hw5
          obtain ⟨pp, rfl⟩ := hw5
          have hb5 := below_regrown wa pp.d pp.os
          go_wp2_with fail
          go_meet
          exact ⟨by rw [hris]; rfl, hb5⟩
      case rest =>
        obtain ⟨rfl, hb⟩ := hcut
        obtain ⟨y0, y1, y2, y3⟩ := HX.out.below hb
        have HKC := Lib.hid (HKA.out.trans (Kp.of_below hb))
        have HGC := Lib.hid (grown_trans HGA.out (grown_below hb (some (w.heap.size + 1))))
        have HBC := Lib.hid (HBA.out.trans (hb.mono HBA.out.size))
        have hsc : ∃ n D, IsSet wc (w.heap.size + 1) n D := by obtain ⟨n, D, h⟩ := HSA.out; exact ⟨n, D, set_below h hb⟩
        have hta := HTA.out.below hb
        have hIT := isTable_any ls[j] cA iA cc ic (w.heap.size + 1) wc hta.c hta.x (by have := hta.cb; omega) hsc
        have hma := mayAt_get hlt
        generalize hR : risAt ls j = R
        generalize tblB ls[j] = T at hIT hma
        have HIT := Lib.hid hIT
        obtain ⟨ns, Ds, hs⟩ := hsc
        have HSC := Lib.hid hs
        clear HX HKA HGA HBA HSA HTA HG HBW HSS HT hta hIT hb r1 R1 HAB hs
        cases R
        · have hz : (List.range ls.length).all (fun j => risAt ls j && mayAt ls j) = false := not_all_range hlt (by rw [hR]; rfl)
          have HZ := Lib.hid hz
          clear hz
          go_wp2
          go_ret
          exact ⟨ret_bool (by rw [HZ.out]; rfl), HBC.out⟩
        · cases T
          · have hz : (List.range ls.length).all (fun j => risAt ls j && mayAt ls j) = false := not_all_range hlt (by rw [hR, hma]; rfl)
            have HZ := Lib.hid hz
            clear hz
            go_wp2_with (go_at_call 60; refine HIT.out.mono ?_; rintro e w6 ⟨rfl, hss, hg⟩; have HG6 := Lib.hid hg; clear hss hg)
            go_ret
            exact ⟨ret_bool (by rw [HZ.out]; rfl), HBC.out.grown HG6.out HBC.out.size (fun k hk => by injection hk with hk; omega)⟩
          · have hmn : ∀ k, k < j + 1 → (risAt ls k && mayAt ls k) = true := fun k hk => by
              rcases Nat.lt_or_ge k j with h | h
              · exact HM.out k h
              · have e : k = j := by omega
                rw [e, hR, hma]; rfl
            have HMN := Lib.hid hmn
            clear hmn hR hma
            go_wp2_with (go_at_call 60; refine HIT.out.mono ?_; rintro e w6 ⟨rfl, hss, hg⟩; have HG6 := Lib.hid hg; have HS6 := Lib.hid hss; clear hss hg)
            go_roundw
            case rel => exact ⟨j + 1, by go_num, hlt, HMN.out, HS6.out, grown_trans HGC.out HG6.out⟩
            case measure => simp [intOf]; omega
    · obtain rfl : j = ls.length := by omega
      have hall : (List.range ls.length).all (fun j => risAt ls j && mayAt ls j) = true := all_range HM.out
      have HALL := Lib.hid hall
      have htb : ∀ t ∈ ls, tblB t = true := catB_all fun k hk => by
        have := HM.out k hk
        rw [Bool.and_eq_true] at this
        exact this.2
      have HTB := Lib.hid htb
      obtain ⟨n6, D6, hs6⟩ := HSS.out
      obtain ⟨w7, hcl, hs7, hg7⟩ := run_clear_set hs6
      have s7 := (Kp.of_set hs6 hg7) _ _ r0
      have HK7 := Lib.hid (HK2.out.trans (Kp.of_set hs6 hg7))
      have HS7 := Lib.hid hs7
      have HB7 := Lib.hid (HBW.out.grown hg7 HBW.out.size (fun k hk => by injection hk with hk; omega))
      clear hall htb HM HSS HG HBW r0 hs6 hs7 hg7 HK2
      go_wp2
      generalize hwz : w7 = wz at *
      go_loopw [8, 49] (fun _ i wr => ∃ j : Nat, i = .int .i64 j ∧ j ≤ ls.length ∧ IsSet wr (w.heap.size + 1) (names (ls.take j)).length (setOf (.agg []) (keys (names (ls.take j)))) ∧ newB [] (names ls) = newB (octs (names (ls.take j))) (names (ls.drop j)) ∧ wz.grownBy wr (some (w.heap.size + 1))) (fun _ i _ => ls.length - (intOf i).toNat)
      case atStart => exact ⟨0, rfl, by omega, HS7.out, rfl, grown_refl _ _⟩
      case round =>
        obtain ⟨j, rfl, hj, hS, hI, hG⟩ := hrel
        have HKR := Lib.hid (HK7.out.trans (Kp.of_set HS7.out hG))
        have HBR := Lib.hid (HB7.out.grown hG HB7.out.size (fun k hk => by injection hk with hk; omega))
        have HSS := Lib.hid hS
        have HI := Lib.hid hI
        have HG := Lib.hid hG
        clear hS hI hG hcl s7
        by_cases hlt : j < ls.length
        · obtain ⟨ad, rfl, cA, iA, cc, ic, k0, k1, k2, k3, hT⟩ := (HR.out.kept HKR.out).at_ hlt
          have hjl : (j : Int) < (ls.length : Int) := by omega
          have ha := below1 wr (.cells #[.string ls[j].m, .slice cA ls[j].cols.length cc, .int .i64 ls[j].key, .slice iA ls[j].idx.length ic] 46)
          obtain ⟨_, hi4, hi16⟩ := tblB_idx (HTB.out _ (List.getElem_mem hlt))
          have hnx := newX_acc iA ls[j].idx.length ic (w.heap.size + 1) ls[j].idx (names (ls.take j)) (wr.alloc (.cells #[.string ls[j].m, .slice cA ls[j].cols.length cc, .int .i64 ls[j].key, .slice iA ls[j].idx.length ic] 46)) rfl (hT.x.below ha) (by omega) (tblB_few HTB.out (by omega) j) hi16 (HSS.out.alloc _)
          have hin := HI.out.trans (newB_names hlt (octs (names (ls.take j))))
          rw [← octs_append, ← names_take hlt] at hin
          rw [← names_take hlt] at hnx
          generalize newB (octs (names (ls.take j))) (ls[j].idx.map Ix.m) = T at hnx hin
          have HNX := Lib.hid hnx
          have HIN := Lib.hid hin
          have HGA := Lib.hid (grown_trans HG.out (grown_below ha (some (w.heap.size + 1))))
          have HBA := Lib.hid (HBR.out.trans (ha.mono HBR.out.size))
          clear hnx hin hT ha HI HSS hi4 hi16
          cases T
          · have HZ : Hid (newB [] (names ls) = false) := Lib.hid (by rw [HIN.out]; rfl)
            go_wp2_with (go_at_call 61; refine HNX.out.mono ?_; rintro e w8 ⟨rfl, hss, hs, hg⟩; have HG8 := Lib.hid hg; clear hss hs hg)
            go_ret
            exact ⟨ret_bool (by rw [HALL.out, HZ.out]; rfl), HBA.out.grown HG8.out HBA.out.size (fun k hk => by injection hk with hk; omega)⟩
          · have HZ : Hid (newB [] (names ls) = newB (octs (names (ls.take (j + 1)))) (names (ls.drop (j + 1)))) := Lib.hid (by rw [HIN.out]; rfl)
            go_wp2_with (go_at_call 61; refine HNX.out.mono ?_; rintro e w8 ⟨rfl, hss, hs, hg⟩; have HG8 := Lib.hid hg; have HS8 := Lib.hid (hs rfl); clear hss hs hg)
            go_roundw
            case rel => exact ⟨j + 1, by go_num, hlt, HS8.out, HZ.out, grown_trans HGA.out HG8.out⟩
            case measure => simp [intOf]; omega
        · have HZ : Hid (newB [] (names ls) = true) := Lib.hid (by rw [HI.out, List.drop_of_length_le (by omega)]; rfl)
          go_wp2
          go_ret
          exact ⟨ret_bool (by rw [HALL.out, HZ.out]; rfl), HBR.out⟩

end Go.Proofs.YtipcacplphidhaaGreat
/- Where a table's name stands in a catalog: plain mathematics. Conditions: none. -/
/- Which catalogs may be: the walk of Check. Conditions: tables that are read in memory. -/
namespace Go.Proofs.YtipcacplphidhaaGreat
open Go.RowKit Go.Sort Go.Maps
set_option linter.unusedSimpArgs false
set_option linter.unusedVariables false

set_option maxRecDepth 100000 in
set_option maxHeartbeats 400000 in
theorem cCheck_any6 (A : Option Addr) (n c : Nat) (ls : List Tb) (w : World) (hl : n = ls.length) (hr : RdS w A ls) (hn : ls.length ≤ 9223372036854775807) :
    Calls Tryz.prog 29 #[.agg #[.slice A n c]] w fun e w' => e = .returned (.int .i64 (if catB ls = true then 0 else 9)) ∧ Below w.heap.size w w' := by
  subst hl
  have h := mayBe_any6 A ls.length c ls (w.alloc (.cells #[.slice A ls.length c] 35)) rfl (hr.below (below1 _ _)) hn
  generalize catB ls = T at h ⊢
  have H := Lib.hid h
  clear hr h
  have HB1 := Lib.hid (below1 w (.cells #[.slice A ls.length c] 35))
  cases T
  all_goals
    go_enter Tryz.func29, Tryz.ntmps29
    go_wp2_with (go_at_call 48; (with_reducible refine H.out.mono ?_); rintro e w1 ⟨rfl, hb⟩; have HB := Lib.hid (thn HB1.out hb); clear hb)
    go_ret
    exact ⟨rfl, HB.out⟩
end Go.Proofs.YtipcacplphidhaaGreat
namespace Go.Proofs.YtipcacplphidhaaGreat
open Go.RowKit Go.Sort Go.Maps
set_option linter.unusedSimpArgs false
set_option linter.unusedVariables false

theorem takeWhile_len {α : Type} (p : α → Bool) : ∀ (l : List α) (i : Nat), i ≤ l.length → (∀ j (h : j < l.length), j < i → p l[j] = true) → (∀ h : i < l.length, p l[i] = false) → (l.takeWhile p).length = i
  | [], i, hi, _, _ => by simp at hi; simp [hi]
  | a :: l, i, hi, h1, h2 => by
    rcases Nat.eq_zero_or_pos i with rfl | h0
    · have := h2 (by simp)
      simp only [List.getElem_cons_zero] at this
      simp [List.takeWhile_cons, this]
    · have ha := h1 0 (by simp) h0
      simp only [List.getElem_cons_zero] at ha
      have ih := takeWhile_len p l (i - 1) (by simp at hi; omega) (fun j h hj => by
        have := h1 (j + 1) (by simp; omega) (by omega)
        simpa using this) (fun h => by
        have := h2 (by simp; omega)
        have e : i = i - 1 + 1 := by omega
        have e2 : (a :: l)[i]'(by simp; omega) = l[i - 1]'h := by
          have : (a :: l)[i - 1 + 1]'(by simp; omega) = l[i - 1]'h := List.getElem_cons_succ ..
          rw [← this]; congr 1
        rw [e2] at this
        exact this)
      simp [List.takeWhile_cons, ha, ih]; omega
/-- Tables by their names, rising. -/
def SrtT (ls : List Tb) : Prop := ls.Pairwise fun a b => lessB a.m b.m = true
def befT (s : ByteArray) (t : Tb) : Bool := lessB t.m s
/-- Where a table of that name stands, or would stand. -/
def posT (ls : List Tb) (s : ByteArray) : Nat := (ls.takeWhile (befT s)).length
def isT (ls : List Tb) (s : ByteArray) : Bool := match ls[posT ls s]? with
  | some t => decide (ordS t.m s = 0)
  | none => false
theorem lessB_trans {a b c : ByteArray} (h1 : lessB a b = true) (h2 : lessB b c = true) : lessB a c = true := less_trans h1 h2
theorem lessB_irrefl (a : ByteArray) : lessB a a = false := less_irrefl _
theorem ordS_neg_iff {a b : ByteArray} : decide (ordS a b < 0) = lessB a b := by
  unfold ordS lessB
  split
  · rename_i h; rw [h]; rfl
  · rename_i h
    have h' : Op.bytesLess a.toList b.toList = false := by simpa using h
    rw [h']
    split <;> rfl
theorem ordS_zero {a b : ByteArray} : ordS a b = 0 ↔ a = b := by
  unfold ordS
  constructor
  · intro h
    split at h
    · cases h
    · split at h
      · rename_i h2; exact ba_iff.1 h2
      · cases h
  · rintro rfl
    rw [if_neg (by rw [less_irrefl]; decide), if_pos rfl]
theorem srtT_of : ∀ {l : List Tb}, (∀ i (h : i + 1 < l.length), lessB (l[i]'(by omega)).m l[i + 1].m = true) → SrtT l
  | [], _ => List.Pairwise.nil
  | [a], _ => List.pairwise_singleton _ _
  | a :: b :: l, h => by
    have ih := srtT_of (l := b :: l) (fun i hi => by
      have := h (i + 1) (by simp at hi ⊢; omega)
      simpa using this)
    have h0 := h 0 (by simp)
    simp only [List.getElem_cons_zero, List.getElem_cons_succ] at h0
    refine List.pairwise_cons.2 ⟨fun x hx => ?_, ih⟩
    rcases List.mem_cons.1 hx with rfl | hx
    · exact h0
    · exact lessB_trans h0 ((List.pairwise_cons.1 ih).1 x hx)
theorem SrtT.get {l : List Tb} (h : SrtT l) {i j : Nat} (hij : i < j) (hj : j < l.length) : lessB (l[i]'(by omega)).m l[j].m = true := List.pairwise_iff_getElem.1 h i j (by omega) hj hij
theorem posT_of {l : List Tb} (h : SrtT l) {s : ByteArray} {i : Nat} (hi : i ≤ l.length) (h1 : ∀ h : 0 < i, befT s (l[i - 1]'(by omega)) = true) (h2 : ∀ h : i < l.length, befT s l[i] = false) : posT l s = i := by
  refine takeWhile_len _ l i hi (fun j hj hji => ?_) h2
  have h3 := h1 (by omega)
  by_cases e : j = i - 1
  · subst e; exact h3
  · exact lessB_trans (h.get (i := j) (j := i - 1) (by omega) (by omega)) h3
/-- What is so of a catalog that may be. -/
structure Cat (ls : List Tb) : Prop where
  few : ls.length ≤ 8
  srt : SrtT ls
  may : ∀ t ∈ ls, tblB t = true
  new : newB [] (names ls) = true
theorem cat_of {ls : List Tb} (h : catB ls = true) : Cat ls := by
  unfold catB at h
  simp only [Bool.and_eq_true, decide_eq_true_eq] at h
  obtain ⟨h1, h2, h3⟩ := h
  have h2' : ∀ j, j < ls.length → risAt ls j = true ∧ mayAt ls j = true := fun j hj => by
    have := List.all_eq_true.1 h2 j (by simpa using hj)
    simpa using this
  refine ⟨h1, srtT_of fun i hi => ?_, catB_all fun k hk => (h2' k hk).2, h3⟩
  have := (h2' (i + 1) hi).1
  rwa [risAt_succ hi] at this
theorem catB_of {ls : List Tb} (h : Cat ls) : catB ls = true := by
  unfold catB
  rw [decide_eq_true h.few, h.new, all_range, Bool.and_self, Bool.and_self]
  intro j hj
  rw [Bool.and_eq_true, mayAt_get hj]
  refine ⟨?_, h.may _ (List.getElem_mem hj)⟩
  cases j with
  | zero => rfl
  | succ i => rw [risAt_succ hj]; exact h.srt.get (by omega) hj
theorem isT_mem {ls : List Tb} (h : SrtT ls) {j : Nat} (hj : j < ls.length) : posT ls ls[j].m = j ∧ isT ls ls[j].m = true := by
  have e : posT ls ls[j].m = j := posT_of h (by omega) (fun h0 => h.get (i := j - 1) (j := j) (by omega) hj) (fun _ => lessB_irrefl _)
  refine ⟨e, ?_⟩
  unfold isT
  rw [e, List.getElem?_eq_getElem hj]
  exact decide_eq_true (ordS_zero.2 rfl)
theorem isT_get {ls : List Tb} {s : ByteArray} (h : isT ls s = true) : ∃ hp : posT ls s < ls.length, ls[posT ls s].m = s := by
  unfold isT at h
  split at h
  · rename_i t ht
    obtain ⟨hp, e⟩ := List.getElem?_eq_some_iff.1 ht
    exact ⟨hp, by rw [e]; exact ordS_zero.1 (of_decide_eq_true h)⟩
  · cases h
theorem posT_le (ls : List Tb) (s : ByteArray) : posT ls s ≤ ls.length := (List.takeWhile_prefix (befT s)).length_le
/-- What Find answers. -/
def findF (ls : List Tb) (s : ByteArray) : Int × Int := if catB ls = false then (0, 9) else if isT ls s = true then (posT ls s, 0) else (0, 93)
end Go.Proofs.YtipcacplphidhaaGreat
namespace Go.Proofs.YtipcacplphidhaaGreat
open Go.RowKit Go.Sort Go.Maps
set_option linter.unusedSimpArgs false
set_option linter.unusedVariables false

set_option maxHeartbeats 1000000 in
theorem place1_any (m : ByteArray) (cA iA : Option Addr) (cn cc in_ ic : Nat) (k : Int) (s : ByteArray) (w : World) :
    Calls Tryz.prog 32 #[tbl m cA cn cc k iA in_ ic, .string s] w fun e w' => e = .returned (.int .i64 (ordS m s)) ∧ Below w.heap.size w w' := by
  have HC := Lib.hid fun W => cmpS_any m s W
  have HB := Lib.hid (below1 w (.cells #[.string m, .slice cA cn cc, .int .i64 k, .slice iA in_ ic] 46))
  go_enter Tryz.func32, Tryz.ntmps32
  go_wp2_with (go_at_call 33; refine (HC.out _).mono ?_; rintro e w1 ⟨rfl, rfl⟩)
  go_ret
  exact ⟨rfl, HB.out⟩

set_option maxRecDepth 100000 in
set_option maxHeartbeats 4000000 in
theorem searchT_any (A : Option Addr) (c : Nat) (ls : List Tb) (s : ByteArray) (w : World) (hr : RdS w A ls) (hn : ls.length ≤ 8) (hs : SrtT ls) :
    Calls Tryz.prog 31 #[.slice A ls.length c, .string s, .func (.func 32) #[] #[]] w fun e w' => e = .returned (.tuple #[.int .i64 (posT ls s), .bool (isT ls s)]) ∧ Below w.heap.size w w' := by
  have HR := Lib.hid hr
  have HS := Lib.hid hs
  clear hr hs
  go_enter Tryz.func31, Tryz.ntmps31
  go_wp2
  go_loopw [9, 10, 11] (fun a z _ wr => ∃ i j : Nat, a = .int .i64 i ∧ z = .int .i64 j ∧ i ≤ j ∧ j ≤ ls.length ∧ (∀ h : 0 < i, ∀ h2 : i - 1 < ls.length, befT s ls[i - 1] = true) ∧ (∀ h : j < ls.length, befT s ls[j] = false) ∧ Below w.heap.size w wr) (fun a z _ _ => (intOf z).toNat - (intOf a).toNat)
  case atStart => exact ⟨0, ls.length, rfl, rfl, by omega, by omega, fun h => by omega, fun h => by omega, Below.refl _ _⟩
  case round =>
    obtain ⟨i, j, rfl, rfl, hij, hj, h1, h2, hB⟩ := hrel
    have H1 := Lib.hid h1
    have H2 := Lib.hid h2
    have HB := Lib.hid hB
    clear h1 h2 hB
    by_cases hlt : i < j
    · go_upto_region 5 with fail
      rw [show ((i : Int) + (j : Int)) / 2 = (((i + j) / 2 : Nat) : Int) by omega]
      obtain ⟨h, hh⟩ : ∃ h, h = (i + j) / 2 := ⟨_, rfl⟩
      have hi1 : i ≤ h := by omega
      have hi2 : h < j := by omega
      rw [← hh]
      clear hh
      have hhl : h < ls.length := by omega
      obtain ⟨ad, rfl, cA, iA, cc, ic, k0, k1, k2, k3, _⟩ := (HR.out.below HB.out).at_ hhl
      have hq0 := cell_lt k0
      have hbf : befT s ls[h] = decide (ordS ls[h].m s < 0) := ordS_neg_iff.symm
      have HBF := Lib.hid hbf
      clear hbf
      have HF := Lib.hid fun W => place1_any ls[h].m cA iA ls[h].cols.length cc ls[h].idx.length ic ls[h].key s W
      generalize ordS ls[h].m s = O at HF HBF
      have hlt' : (h : Int) < (ls.length : Int) := by omega
      by_cases hO : O < 0
      · have HN : Hid (befT s ls[h] = true) := by rw [HBF.out]; exact decide_eq_true hO
        go_wp2_with (go_at_call 32; (with_reducible refine (HF.out _).mono ?_); rintro e w5 ⟨rfl, hb⟩; have HB5 := Lib.hid hb; clear hb)
        go_roundw
        case rel => exact ⟨h + 1, j, by go_num, rfl, by omega, hj, fun _ _ => by simpa using HN.out, H2.out, HB.out.trans (HB5.out.mono HB.out.size)⟩
        case measure => simp [intOf]; omega
      · have HN : Hid (befT s ls[h] = false) := by rw [HBF.out]; exact decide_eq_false hO
        go_wp2_with (go_at_call 32; (with_reducible refine (HF.out _).mono ?_); rintro e w5 ⟨rfl, hb⟩; have HB5 := Lib.hid hb; clear hb)
        go_roundw
        case rel => exact ⟨i, h, rfl, rfl, hi1, by omega, H1.out, fun _ => HN.out, HB.out.trans (HB5.out.mono HB.out.size)⟩
        case measure => simp [intOf]; omega
    · obtain rfl : i = j := by omega
      have hp : posT ls s = i := posT_of HS.out hj (fun h => H1.out h (by omega)) H2.out
      have hat : isT ls s = (match ls[i]? with | some t => decide (ordS t.m s = 0) | none => false) := by unfold isT; rw [hp] <;> rfl
      have HP := Lib.hid hp
      have HAT := Lib.hid hat
      clear hp hat
      by_cases hn2 : i < ls.length
      · obtain ⟨ad, rfl, cA, iA, cc, ic, k0, k1, k2, k3, _⟩ := (HR.out.below HB.out).at_ hn2
        have hq0 := cell_lt k0
        have hat2 : isT ls s = decide (ordS ls[i].m s = 0) := by rw [HAT.out, List.getElem?_eq_getElem hn2]
        have HAT2 := Lib.hid hat2
        clear hat2
        clear HAT
        have HF := Lib.hid fun W => place1_any ls[i].m cA iA ls[i].cols.length cc ls[i].idx.length ic ls[i].key s W
        generalize ordS ls[i].m s = O at HF HAT2
        have hlt' : (i : Int) < (ls.length : Int) := by omega
        have hd : decide ((i : Int) < (ls.length : Int)) = true := decide_eq_true hlt'
        have hd2 : decide (i < ls.length) = true := decide_eq_true hn2
        go_wp2_with (go_at_call 32; (with_reducible refine (HF.out _).mono ?_); rintro e w5 ⟨rfl, hb⟩; have HB5 := Lib.hid hb; clear hb)
        go_ret2
        exact ⟨by rw [HP.out, HAT2.out]; first | rfl | simp, HB.out.trans (HB5.out.mono HB.out.size)⟩
      · have HAT2 : Hid (isT ls s = false) := Lib.hid (by rw [HAT.out, List.getElem?_eq_none (by omega)])
        have hd : decide ((i : Int) < (ls.length : Int)) = false := by simp; omega
        have hd2 : decide (i < ls.length) = false := decide_eq_false hn2
        clear HAT
        go_wp2
        go_ret2
        exact ⟨by rw [HP.out, HAT2.out]; first | rfl | simp, HB.out⟩

set_option maxRecDepth 100000 in
set_option maxHeartbeats 1000000 in
theorem placeOf_any (A : Option Addr) (c : Nat) (ls : List Tb) (s : ByteArray) (w : World) (hr : RdS w A ls) (hn : ls.length ≤ 8) (hs : SrtT ls) :
    Calls Tryz.prog 16 #[.agg #[.slice A ls.length c], .string s] w fun e w' => e = .returned (.tuple #[.int .i64 (posT ls s), .bool (isT ls s)]) ∧ Below w.heap.size w w' := by
  have HB1 := Lib.hid (below1 w (.cells #[.slice A ls.length c] 35))
  have HC := Lib.hid (searchT_any A c ls s (w.alloc (.cells #[.slice A ls.length c] 35)) (hr.below HB1.out) hn hs)
  clear hr hs
  generalize posT ls s = P at HC ⊢
  generalize isT ls s = I at HC ⊢
  go_enter Tryz.func16, Tryz.ntmps16
  go_wp2_with (go_at_call 31; (with_reducible refine HC.out.mono ?_); rintro e w1 ⟨rfl, hb⟩; have HB := Lib.hid (thn HB1.out hb); clear hb)
  go_ret2
  exact ⟨rfl, HB.out⟩
end Go.Proofs.YtipcacplphidhaaGreat
