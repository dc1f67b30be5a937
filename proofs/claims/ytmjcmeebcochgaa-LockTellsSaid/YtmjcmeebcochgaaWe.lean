/- LockKeys of the statements answers true for any keys and any other key: the walk. Conditions: keys that are read in memory, within reach. -/
import Derived.Test.YtmjcmeebcochgaaWb
namespace Go.Proofs.Ytmjcmeebcochgaa
open Go.RowKit Go.Sort Go.Maps
set_option linter.unusedSimpArgs false
set_option linter.unusedVariables false

theorem lt_snoc : ∀ x y : List UInt8, x < y ++ [0] ↔ x ≤ y
  | [], [] => by simp
  | [], b :: y => by simp
  | a :: x, [] => by
    have : ¬ a < 0 := by simp
    simp [List.cons_lt_cons_iff, this]
  | a :: x, b :: y => by
    have ih := lt_snoc x y
    rw [List.cons_append, List.cons_lt_cons_iff, List.cons_le_cons_iff, ih]
theorem key0_list (k : Key) : (k.s ++ ⟨#[0]⟩ : ByteArray).toList = k.s.toList ++ [0] := by
  rw [ByteArray.toList_eq, ByteArray.toList_eq]
  simp [ByteArray.data_append]
theorem rd_may (k : Key) (h : k.s.size + 1 ≤ 140737488355328) : mayL (rdL 1 k h) = true := by
  have h1 : k < (rdL 1 k h).hi := by
    show k.s.toList < (k.s ++ ⟨#[0]⟩ : ByteArray).toList
    rw [key0_list, lt_snoc]
    exact Std.IsPreorder.le_refl _
  unfold mayL ends
  simp only [Bool.and_eq_true, Bool.or_eq_true, decide_eq_true_eq]
  exact ⟨⟨(by decide : (1 : Int) ≤ 1), (by decide : (1 : Int) ≤ 1099511627776)⟩, .inr h1⟩
theorem rd_has (k q : Key) (h : k.s.size + 1 ≤ 140737488355328) : hasB q (rdL 1 k h) = decide (q = k) := by
  have h1 : q < (rdL 1 k h).hi ↔ q ≤ k := by
    show q.s.toList < (k.s ++ ⟨#[0]⟩ : ByteArray).toList ↔ q.s.toList ≤ k.s.toList
    rw [key0_list, lt_snoc]
  have h2 : (rdL 1 k h).hi ≠ noKey := fun e => by
    have e1 : (rdL 1 k h).hi.s.toList = noKey.s.toList := by rw [e]
    have e2 : (rdL 1 k h).hi.s.toList = k.s.toList ++ [0] := key0_list k
    have e3 : noKey.s.toList = [] := by decide +kernel
    rw [e2, e3] at e1
    simp at e1
  have h3 : (rdL 1 k h).lo = k := rfl
  unfold hasB ends
  rw [Bool.eq_iff_iff]
  simp only [Bool.and_eq_true, Bool.or_eq_true, decide_eq_true_eq]
  rw [h1, h3]
  have := Std.IsPartialOrder.le_antisymm q k
  grind
/-- The keys of ks, and no other, are locked. -/
structure Just (m : List Lk) (ks : List Key) : Prop where
  ok : Ok m
  len : m.length ≤ ks.length
  has : ∀ q, rdsB m 1 q = decide (q ∈ ks)
theorem Just.nil : Just [] [] := ⟨⟨by simp, by simp, List.Pairwise.nil⟩, by simp, fun q => by simp [rdsB, Ytmjcmeebcochgaa.has]⟩
theorem Just.more {m : List Lk} {ks : List Key} (h : Just m ks) (k : Key) (hk : k.s.size + 1 ≤ 140737488355328) (hl : ks.length < 512) : (addR m (rdL 1 k hk)).2 = 0 ∧ Just (addR m (rdL 1 k hk)).1 (ks ++ [k]) := by
  have h0 := add_room h.ok (rd_may k hk) (by have := h.len; omega)
  obtain ⟨_, _, o, _, a⟩ := add_ok h0
  refine ⟨h0, o, ?_, fun q => ?_⟩
  · have h1 := add_len (l := m) (x := rdL 1 k hk)
    have := h.len
    simp
    omega
  · have h1 := h.has q
    unfold rdsB at *
    rw [decide_eq_true o, a, rd_has]
    rw [decide_eq_true h.ok] at h1
    simp only [Bool.true_and] at h1 ⊢
    rw [h1]
    have e : (rdL 1 k hk).t = 1 := rfl
    rw [e, Bool.eq_iff_iff]
    simp
    exact Or.comm
/-- The slice at A of n keys, with room for c, reads as the list l. -/
structure RdK (w : World) (A : Option Addr) (n c : Nat) (l : List Key) : Prop where
  len : l.length = n
  le : n ≤ c
  cap : c ≤ 9223372036854775807
  nil : A = none → n = 0 ∧ c = 0
  small : ∀ k ∈ l, k.s.size + 1 ≤ 140737488355328
  cells : ∀ ad, A = some ad → ∀ (j : Nat) (v : Key), l[j]? = some v → w.cell? (ad.add j) = some (.string v.s)
theorem RdK.below {w w' : World} {A : Option Addr} {n c : Nat} {l : List Key} (h : RdK w A n c l) (hb : Below w.heap.size w w') : RdK w' A n c l :=
  ⟨h.len, h.le, h.cap, h.nil, h.small, fun ad e j v hj => cell_keep (h.cells ad e j v hj) hb⟩
theorem RdK.at_ {w : World} {A : Option Addr} {n c : Nat} {l : List Key} (h : RdK w A n c l) {k : Nat} (hk : k < l.length) : ∃ ad, A = some ad ∧ w.cell? (ad.add k) = some (.string l[k].s) := by
  cases A with
  | none => have := (h.nil rfl).1; have := h.len; omega
  | some ad => exact ⟨ad, rfl, h.cells ad rfl k _ (List.getElem?_eq_getElem hk)⟩
set_option maxRecDepth 100000 in
set_option maxHeartbeats 16000000 in
theorem kKeys_any (A : Option Addr) (n c : Nat) (ks : List Key) (o : Key) (w : World) (hr : RdK w A n c ks) :
    Calls Try.prog 7 #[.slice A n c, .string o.s] w fun e w' => e = .returned (.bool true) ∧ Below w.heap.size w w' := by
  have hl := hr.len
  have hcap : n ≤ 9223372036854775807 := by have := hr.le; have := hr.cap; omega
  subst hl
  have HR := Lib.hid hr
  have HA := Lib.hid fun W => alive_any W
  have HN := Lib.hid fun k W => num_any k W
  have HRE := Lib.hid fun m k hk A n c W (hr : Rd W A n c m) => read_any A n c m 1 k hk W hr
  have HRD := Lib.hid fun m k A n c W (hr : Rd W A n c m) => reads_any A n c m 1 k W hr
  clear hr
  go_enter Try.func7, Try.ntmps7
  go_upto_region 4 with (go_at_call 24; (with_reducible refine (HA.out _).mono ?_); rintro e w1 ⟨rfl, hb⟩; have HB1 := Lib.hid hb; clear hb)
  have HS2 : Hid (Stt (w1.alloc (.cells #[.slice none 0 0] 29)) w1.heap.size none 0 0 []) := Lib.hid (Stt.new (Rd.nothing _))
  have HB2 := Lib.hid (thn HB1.out (below1 w1 (.cells #[.slice none 0 0] 29)))
  have HF2 : Hid ((w1.alloc (.cells #[.slice none 0 0] 29)).frozen? ⟨w1.heap.size, 0, none⟩ = false) := Lib.hid (World.frozen?_alloc_at #[.slice none 0 0] _ _ 0 rfl)
  have HG := Lib.hid HB1.out.size
  clear HB1
  generalize w1.alloc (.cells #[.slice none 0 0] 29) = W2 at *
  generalize w1.heap.size = g at *
  go_wp2_with fail
  go_loopw [6, 7, 8, 9] (fun b i _ _ wr => ∃ (j : Nat) (m : List Lk) (A1 : Option Addr) (n1 c1 : Nat), i = .int .i64 j ∧ j ≤ ks.length ∧ j ≤ 30 ∧ b = .bool (decide (o ∈ ks.take j)) ∧ Just m (ks.take j) ∧ Stt wr g A1 n1 c1 m ∧ wr.frozen? ⟨g, 0, none⟩ = false ∧ Below w.heap.size w wr) (fun _ i _ _ _ => ks.length - (intOf i).toNat)
  case atStart => exact ⟨0, [], none, 0, 0, rfl, by omega, by omega, by simp, Just.nil, HS2.out, HF2.out, HB2.out⟩
  case round =>
    obtain ⟨j, m, A1, n1, c1, rfl, hj, hj30, rfl, hJ, hS, hF, hB⟩ := hrel
    have HJ := Lib.hid hJ
    have HS := Lib.hid hS
    have HF := Lib.hid hF
    have HB := Lib.hid hB
    clear hJ hS hF hB HS2 HB2 HF2
    by_cases hgo : j < ks.length ∧ j < 30
    · obtain ⟨hlt, h30⟩ := hgo
      have hd1 : decide ((j : Int) < (ks.length : Int)) = true := by simpa using hlt
      have hd2 : decide ((j : Int) < 30) = true := by simp; omega
      obtain ⟨ad, rfl, k0⟩ := (HR.out.below HB.out).at_ hlt
      have hk := HR.out.small ks[j] (List.getElem_mem hlt)
      have hst : ks.take (j + 1) = ks.take j ++ [ks[j]] := List.take_succ_eq_append_getElem hlt
      have hmo := HJ.out.more ks[j] hk (by simp; omega)
      have hin : decide (o ∈ ks.take (j + 1)) = (decide (o ∈ ks.take j) || (ks[j].s.toList == o.s.toList)) := by
        rw [hst]
        generalize ks.take j = T
        generalize ks[j] = q
        rw [eq_dec, Bool.eq_iff_iff]
        simp only [Bool.or_eq_true, decide_eq_true_eq, List.mem_append, List.mem_singleton]
        exact ⟨Or.imp_right Eq.symm, Or.imp_right Eq.symm⟩
      rw [← hst] at hmo
      have hqk := cell_lt k0
      rw [add_block] at hqk
      have HK1 := Lib.hid fun W (hb : Below w.heap.size w W) => (HR.out.below hb).cells ad rfl j ks[j] (List.getElem?_eq_getElem hlt)
      generalize ks[j] = k at *
      have HRR := Lib.hid fun W (hb : Below wr.heap.size wr W) => HRE.out m k hk A1 n1 c1 W (HS.out.r.below hb)
      generalize addR m (rdL 1 k hk) = R at *
      obtain ⟨m2, E⟩ := R
      simp only at HRR hmo
      obtain ⟨h0, hj2⟩ := hmo
      subst h0
      have HJ2 := Lib.hid hj2
      have HIN := Lib.hid hin
      have hsl := HS.out.s
      have hgl : g < wr.heap.size := cell_lt hsl
      have hjl : (j : Int) < (ks.length : Int) := by omega
      have HLT := Lib.hid hlt
      have H30 := Lib.hid h30
      clear hst hin hj2 hk
      go_upto_region 8 with fail
      go_cut [8, 9] (fun p e wx => ∃ (g8 : Nat) (A8 : Option Addr) (n8 c8 : Nat), p = .pointer (some ⟨g8, 0, none⟩) ∧ e = .int .i64 0 ∧ Stt wx g A1 n1 c1 m ∧ wx.frozen? ⟨g, 0, none⟩ = false ∧ Stt wx g8 A8 n8 c8 m2 ∧ Below w.heap.size w wx)
      case first =>
        have HSO := Lib.hid fun W' (hb : Below wr.heap.size wr W') => (show Below wr.heap.size wr W' ∧ W'.cell? ⟨g, 0, none⟩ = some (.slice A1 n1 c1) ∧ W'.cell? (ad.add j) = some (.string k.s) from ⟨hb, cell_keep hsl hb, cell_keep k0 hb⟩)
        have hbW := (Below.refl wr.heap.size wr).drew
        clear k0 hsl
        go_region_held3 (fun W' => Below wr.heap.size wr W' ∧ W'.cell? ⟨g, 0, none⟩ = some (.slice A1 n1 c1) ∧ W'.cell? (ad.add j) = some (.string k.s))
          (first | exact HSO.out _ hbW | exact HSO.out _ hq2 | exact HSO.out _ (hq2.alloc hq2.size _) | exact HSO.out _ (hbW.alloc (Nat.le_refl _) _) | exact HSO.out _ (hq2.setCell (by simp <;> omega) _) | (obtain ⟨s0, _⟩ := ‹Below wr.heap.size wr _ ∧ _›; exact HSO.out _ (s0.alloc s0.size _)))
          (first | (go_at_call 12; (with_reducible refine (HRR.out _ (And.left ‹Below wr.heap.size wr _ ∧ _›)).mono ?_); rintro e w4 ⟨A4, n4, c4, rfl, hr4, hb⟩; have hq2 : Below wr.heap.size wr w4 := thn (And.left ‹Below wr.heap.size wr _ ∧ _›) hb; (try (have hc5 := (new_keepD (W := wr) (v := .slice none 0 0) (t := 29) hb).1; have hf5 := (new_keepD (W := wr) (v := .slice none 0 0) (t := 29) hb).2)); (try (have hc5 := (new_keep (W := wr) (v := .slice none 0 0) (t := 29) hb).1; have hf5 := (new_keep (W := wr) (v := .slice none 0 0) (t := 29) hb).2)); clear hb))
        · have hb9 := hq2.alloc hq2.size (.cells #[.slice A4 n4 c4] 29)
          have F0 := Lib.hid (HS.out.below hb9)
          have F1 := Lib.hid ((hb9.frozen (p := ⟨g, 0, none⟩) hgl).trans HF.out)
          have F2 := Lib.hid (Stt.new hr4)
          have F3 := Lib.hid (thn HB.out hb9)
          clear hb9 hr4 hq2 hbW
          go_wp2_with fail
          go_meet
          exact ⟨_, _, _, _, rfl, rfl, F0.out, F1.out, F2.out, F3.out⟩
        · have hb9 := hq2.setCell (p := ⟨wr.heap.size, 0, none⟩) (Nat.le_refl _) (.slice A4 n4 c4)
          have F0 := Lib.hid (HS.out.below hb9)
          have F1 := Lib.hid ((hb9.frozen (p := ⟨g, 0, none⟩) hgl).trans HF.out)
          have F2 := Lib.hid (Stt.mk (set_same (.slice A4 n4 c4) hc5) (hr4.slot hc5 _))
          have F3 := Lib.hid (thn HB.out hb9)
          clear hb9 hr4 hq2 hbW hc5 hf5
          go_wp2_with fail
          go_meet
          exact ⟨_, _, _, _, rfl, rfl, F0.out, F1.out, F2.out, F3.out⟩
      case rest =>
      obtain ⟨g8, A8, n8, c8, rfl, rfl, h1, h2, h3, h4⟩ := hcut
      have HS9 := Lib.hid h1
      have HT9 := Lib.hid h3
      have HB9 := Lib.hid h4
      have hs9 := HS9.out.s
      have ht9 := HT9.out.s
      have HF9 := Lib.hid h2
      clear h1 h3 h4 k0 hsl
      go_upto_region 12 with (go_at_call 21; (with_reducible refine (HN.out _ _).mono ?_); rintro e w7 ⟨rfl, rfl⟩)
      have HS10 : Hid (Stt (wc.setCell ⟨g, 0, none⟩ (.slice A8 n8 c8)) g A8 n8 c8 m2) := Lib.hid (Stt.mk (set_same (.slice A8 n8 c8) hs9) (HT9.out.r.slot hs9 _))
      have HF10 : Hid ((wc.setCell ⟨g, 0, none⟩ (.slice A8 n8 c8)).frozen? ⟨g, 0, none⟩ = false) := Lib.hid (by rw [World.frozen?_setCell]; exact HF9.out)
      have HB10 := Lib.hid (HB9.out.setCell (p := ⟨g, 0, none⟩) HG.out (.slice A8 n8 c8))
      clear hs9 ht9 h2 HS9 HT9 HF9 HB9
      generalize wc.setCell ⟨g, 0, none⟩ (.slice A8 n8 c8) = W10 at *
      have k1 := HK1.out _ HB10.out
      have hqk1 := cell_lt k1
      rw [add_block] at hqk1
      generalize hq : (k.s.toList == o.s.toList) = Q at *
      generalize decide (o ∈ ks.take j) = B0 at *
      cases B0
      · go_wp2_with fail
        go_roundw
        case rel => exact ⟨j + 1, m2, A8, n8, c8, by go_num, HLT.out, H30.out, by rw [HIN.out]; simp, HJ2.out, HS10.out, HF10.out, HB10.out⟩
        case measure => simp [intOf]; omega
      · go_wp2_with fail
        go_roundw
        case rel => exact ⟨j + 1, m2, A8, n8, c8, by go_num, HLT.out, H30.out, by rw [HIN.out]; simp, HJ2.out, HS10.out, HF10.out, HB10.out⟩
        case measure => simp [intOf]; omega
    · have hex : (decide (j < ks.length) = false ∧ decide ((j : Int) < (ks.length : Int)) = false) ∨ (decide (j < ks.length) = true ∧ decide ((j : Int) < (ks.length : Int)) = true ∧ decide (j < 30) = false ∧ decide ((j : Int) < 30) = false) := by
        by_cases hlt : j < ks.length
        · exact .inr ⟨by simpa using hlt, by simpa using hlt, by simp; omega, by simp; omega⟩
        · exact .inl ⟨by simpa using hlt, by simp; omega⟩
      have hall : ∀ i, i < ks.length → i < 30 → i < j := fun i h1 h2 => by omega
      have HALL := Lib.hid hall
      have HRM := Lib.hid fun k A n c W (hr : Rd W A n c m) => HRD.out m k A n c W hr
      have HMEM := Lib.hid fun i (h : i < ks.length) (h2 : i < j) => (show rdsB m 1 ks[i] = true by
        rw [HJ.out.has]
        exact decide_eq_true (List.mem_take_iff_getElem.2 ⟨i, by omega, rfl⟩))
      have hjo := HJ.out.has o
      have HRO := Lib.hid fun A n c W (hr : Rd W A n c m) => HRM.out o A n c W hr
      rw [hjo] at HRO
      generalize decide (o ∈ ks.take j) = B0 at *
      clear hgo hall hjo
      rcases hex with ⟨hd0, hd1⟩ | ⟨hd0, hd1, hd2, hd3⟩
      all_goals
        go_wp2_with fail
        generalize wr = W20 at *
        go_loopw [10] (fun i wx => ∃ i2 : Nat, i = .int .i64 i2 ∧ i2 ≤ ks.length ∧ i2 ≤ 30 ∧ Below W20.heap.size W20 wx) (fun i _ => ks.length - (intOf i).toNat)
        case atStart => exact ⟨0, rfl, by omega, by omega, Below.refl _ _⟩
        case round =>
          obtain ⟨i2, rfl, hi1, hi2, hB2⟩ := hrel
          have HB2 := Lib.hid hB2
          have hs2 := (HS.out.below hB2).s
          have hgl : g < wr.heap.size := cell_lt hs2
          have hbw := thn HB.out hB2
          by_cases hgo : i2 < ks.length ∧ i2 < 30
          · obtain ⟨hlt, h30⟩ := hgo
            have hd1 : decide ((i2 : Int) < (ks.length : Int)) = true := by simpa using hlt
            have hd2 : decide ((i2 : Int) < 30) = true := by simp; omega
            have hd3 : decide (i2 < ks.length) = true := by simpa using hlt
            have hd4 : decide (i2 < 30) = true := by simp; omega
            obtain ⟨ad, rfl, k0⟩ := (HR.out.below hbw).at_ hlt
            have hqk := cell_lt k0
            rw [add_block] at hqk
            have hm := HMEM.out i2 hlt (HALL.out i2 hlt h30)
            generalize ks[i2] = k at *
            have hrk := HRM.out k
            rw [hm] at hrk
            have Q1 := Lib.hid fun d os => hrk A1 n1 c1 (grow (redrawn wr d) os) ((HS.out.r.below HB2.out).below (below_regrown _ d os))
            have hjl : (i2 : Int) < (ks.length : Int) := by omega
            clear hm hrk hB2 hbw
            go_upto_region 16 with fail
            have p0 := cell_regrown hs2
            have p1 := cell_regrown k0
            clear hs2 k0
            refine wp_region_quiet_below (by kernel_rfl) (by kernel_rfl) ?_
            repeat (go_big_quiet_step (with_reducible exact Calls.regrown_of (Q1.out _ _)))
            refine wpQuiet_nil ?_
            intro w9 hw9
            obtain ⟨pp, rfl⟩ := hw9
            have HB9 := Lib.hid (thn HB2.out (below_regrown wr pp.d pp.os))
            clear p0 p1
            generalize grow (redrawn wr pp.d) pp.os = W17 at HB9 ⊢
            go_wp2
            go_roundw
            case rel => exact ⟨i2 + 1, by go_num, hlt, h30, HB9.out⟩
            case measure => simp [intOf]; omega
          · have HBW := Lib.hid hbw
            have HSW := Lib.hid (HS.out.below hB2)
            clear hbw hB2
            by_cases hlt : i2 < ks.length
            · have hd1 : decide ((i2 : Int) < (ks.length : Int)) = true := by simpa using hlt
              have hd2 : decide ((i2 : Int) < 30) = false := by simp; omega
              have hd3 : decide (i2 < ks.length) = true := by simpa using hlt
              have hd4 : decide (i2 < 30) = false := by simp; omega
              clear hgo
              go_wp2_with (go_at_call 25; (with_reducible refine (HRO.out _ _ _ _ HSW.out.r).mono ?_); rintro e w12 ⟨rfl, hb⟩; have HBE := Lib.hid (thn HBW.out hb); clear hb)
              go_ret
              exact ⟨ret_bool (by simp), HBE.out⟩
            · have hd1 : decide ((i2 : Int) < (ks.length : Int)) = false := by simp; omega
              clear hgo
              go_wp2_with (go_at_call 25; (with_reducible refine (HRO.out _ _ _ _ HSW.out.r).mono ?_); rintro e w12 ⟨rfl, hb⟩; have HBE := Lib.hid (thn HBW.out hb); clear hb)
              go_ret
              exact ⟨ret_bool (by simp), HBE.out⟩
end Go.Proofs.Ytmjcmeebcochgaa
