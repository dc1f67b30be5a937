/- What lex's Lower and Keyword, and the reference's, answer of any text: the walks. Conditions: a text's length as every machine keeps it. -/
import Derived.Test.YtipcacplphidhaaGreatTf
import Derived.Test.YtipcacplphidhaaGreatTc
import Derived.Test.YtipcacplphidhaaGreatTe0
import Derived.Laws.AppendOwnNone
namespace Go.Proofs.YtipcacplphidhaaGreat.Sy
open Go.RowKit
set_option linter.unusedSimpArgs false
set_option linter.unusedVariables false

/-- The small letters of the first k octets, as cells. -/
def lowC (s : ByteArray) (k : Nat) : List Value := Lib.byteCells ((s.data.toList.take k).map low)
theorem lowC_succ (s : ByteArray) (k : Nat) (h : k < s.size) : lowC s (k + 1) = lowC s k ++ [.int .u8 ((low s[k]).toNat : Int)] := by
  unfold lowC
  have e : s.data.toList.take (k + 1) = s.data.toList.take k ++ [s[k]] := by
    rw [List.take_succ_eq_append_getElem (by simpa using h)]; rfl
  rw [e, List.map_append, Lib.byteCells_append]
  rfl
theorem lowC_length (s : ByteArray) (k : Nat) (h : k ≤ s.size) : (lowC s k).length = k := by
  unfold lowC; rw [Lib.byteCells_length, List.length_map, List.length_take]; simp; omega
theorem lowC_all (s : ByteArray) : lowC s s.size = Lib.byteCells (s.data.toList.map low) := by
  unfold lowC; rw [List.take_of_length_le (by simp)]

set_option maxHeartbeats 2000000 in
theorem lower_any (s : ByteArray) (w : World) (hs : s.size ≤ 140737488355328) :
    Calls Tryz.prog 94 #[.string s] w fun e w' => e = .returned (.string (lowS s)) ∧ Below w.heap.size w w' := by
  have HS := Lib.hid hs
  have hs' : s.size ≤ 9223372036854775807 := by omega
  clear hs
  have hgrow : Calls Tryz.prog 96 #[.pointer (some ⟨w.heap.size, 0, none⟩), .int .i64 s.size] (w.alloc (.cells #[.pointer none, .slice none 0 0] 160)) fun e w' => e = .returned (.tuple #[]) ∧ (Lib.BuilderAt 160 5 w.heap.size w.heap.size (.pointer (some ⟨w.heap.size, 0, none⟩)) [] w' ∧ Below w.heap.size (w.alloc (.cells #[.pointer none, .slice none 0 0] 160)) w') :=
    Tryz.Builder_Grow_fresh _ _ s.size _ (Nat.le_refl _) (heap_alloc_new w _) (by simp) (by have := HS.out; omega)
  go_enter Tryz.func94, Tryz.ntmps94
  go_wp2_with (go_at_call 96; refine hgrow.mono ?_; rintro e w1 ⟨rfl, hI, hB⟩; have HI := Lib.hid hI; have HB := Lib.hid hB; clear hI hB)
  clear hgrow
  go_loopw [11] (fun i wr => ∃ k : Nat, k ≤ s.size ∧ i = .int .i64 k ∧ Lib.IsBuilderF 160 5 w.heap.size w.heap.size (lowC s k) wr ∧ Below w.heap.size w wr) (fun i _ => s.size - (intOf i).toNat)
  case atStart => exact ⟨0, Nat.zero_le _, rfl, Lib.IsBuilderF.of (.inr HI.out), ((Below.refl _ w).alloc (Nat.le_refl _) _).trans HB.out⟩
  case round =>
    clear HI HB
    obtain ⟨k, hk, rfl, hI, hB⟩ := hrel
    have HI := Lib.hid hI
    have HB := Lib.hid hB
    clear hI hB
    by_cases hlt : k < s.size
    · have hw := fun (c : Int) => writeByte_any BT_b w.heap.size w.heap.size (lowC s k) c wr HI.out (by rw [lowC_length s k hk]; have := HS.out; omega) (HB.out.size)
      have hc := (s[k]).toNat_lt
      by_cases hu : 65 ≤ s[k].toNat ∧ s[k].toNat ≤ 90
      · obtain ⟨h1, h2⟩ := hu
        have HL := Lib.hid (low_up ⟨h1, h2⟩)
        go_wp2_with (go_at_call 97; refine (hw _).mono ?_; rintro e w2 ⟨rfl, hI, hB, _⟩)
        go_roundw
        case rel => exact ⟨k + 1, hlt, by go_num, .inr (by rw [lowC_succ s k hlt, HL.out]; assumption), HB.out.trans (by assumption)⟩
        case measure => simp [intOf]; omega
      · have HL := Lib.hid (low_id hu)
        rcases Nat.lt_or_ge s[k].toNat 65 with h1 | h1
        · clear hu
          go_wp2_with (go_at_call 97; refine (hw _).mono ?_; rintro e w2 ⟨rfl, hI, hB, _⟩)
          go_roundw
          case rel => exact ⟨k + 1, hlt, by go_num, .inr (by rw [lowC_succ s k hlt, HL.out]; assumption), HB.out.trans (by assumption)⟩
          case measure => simp [intOf]; omega
        · have h2 : 90 < s[k].toNat := by omega
          clear hu
          go_wp2_with (go_at_call 97; refine (hw _).mono ?_; rintro e w2 ⟨rfl, hI, hB, _⟩)
          go_roundw
          case rel => exact ⟨k + 1, hlt, by go_num, .inr (by rw [lowC_succ s k hlt, HL.out]; assumption), HB.out.trans (by assumption)⟩
          case measure => simp [intOf]; omega
    · obtain rfl : k = s.size := by omega
      have hst := Tryz.Builder_String_any_k w.heap.size w.heap.size (s.data.toList.map low) wr (by rw [← lowC_all]; exact HI.out) HB.out.size
      go_wp2_with (go_at_call 98; refine hst.mono ?_; rintro e w2 ⟨rfl, hI, hB, _⟩)
      go_ret
      exact ⟨rfl, HB.out.trans (by assumption)⟩

theorem tf {a : Bool} (h1 : a = true) (h2 : a = false) : False := by rw [h1] at h2; cases h2
theorem kw_yes {b : Bool} {x : ByteArray} {l : List UInt8} (h : b = kwl.contains x.toList) (h1 : (x.toList == l) = true) (h2 : kwl.contains l = true) : true = b := by
  rw [h, eq_of_beq h1, h2]

set_option maxHeartbeats 8000000 in
theorem keyword_any (s : ByteArray) (w : World) (hs : s.size ≤ 140737488355328) :
    Calls Tryz.prog 91 #[.string s] w fun e w' => e = .returned (.bool (kwB (lowS s))) ∧ Below w.heap.size w w' := by
  have hL := lower_any s w hs
  generalize lowS s = x at hL ⊢
  have hK : kwB x = kwl.contains x.toList := rfl
  generalize kwB x = b at hK ⊢
  have HK := Lib.hid hK
  clear hK
  go_enter Tryz.func91, Tryz.ntmps91
  go_wp2_with (go_at_call 94; refine hL.mono ?_; rintro e w2 ⟨rfl, hB⟩)
  all_goals clear hL
  all_goals first
    | exact (tf (by assumption) (by assumption)).elim
    | (go_ret; exact ⟨ret_bool (kw_yes HK.out (by assumption) (by decide)), by assumption⟩)
    | (go_ret; exact ⟨ret_bool (by rw [HK.out]; simp only [kwl, List.contains_cons, List.contains_nil, *, Bool.or_false]), by assumption⟩)

/-- Octets as cells. -/
def bys (l : List UInt8) : List Value := l.map fun b => .int .u8 (b.toNat : Int)
theorem bys_append (l m : List UInt8) : bys (l ++ m) = bys l ++ bys m := by simp [bys]
theorem conv_nil (w : World) : (convert 140 9 (.slice none 0 0)).run Tryz.prog w = .ok (.string ⟨#[]⟩) w := by kernel_rfl
theorem conv_own {w : World} {base n : Nat} {v : Value} {l : List UInt8} (h : w.ownsRow base 5 1 v n (bys l)) : (convert 140 9 v).run Tryz.prog w = .ok (.string ⟨l.toArray⟩) w := by
  have hn : n = l.length := by have := h.1; simp [bys] at this; omega
  subst hn
  rcases h.2 with ⟨rfl, h0⟩ | ⟨g, cap, cur, rfl, hb, hg, hc, hm, hs, ht⟩
  · have : l = [] := List.eq_nil_of_length_eq_zero h0
    subst this
    exact conv_nil w
  · refine run_convert_bytes_back w 140 9 5 ⟨g, 0, none⟩ cap l Tryz.underlying140 Tryz.underlying5 Tryz.underlying9 fun j hj => ?_
    exact h.cells (g := g) rfl j (.int .u8 (l[j].toNat : Int)) (by simp [bys, List.getElem?_eq_getElem hj])
/-- The small letters of the first k octets. -/
def lowK (s : ByteArray) (k : Nat) : List UInt8 := (s.data.toList.take k).map low
theorem lowK_succ (s : ByteArray) (k : Nat) (h : k < s.size) : lowK s (k + 1) = lowK s k ++ [low s[k]] := by
  unfold lowK
  have e : s.data.toList.take (k + 1) = s.data.toList.take k ++ [s[k]] := by
    rw [List.take_succ_eq_append_getElem (by simpa using h)]; rfl
  rw [e, List.map_append]; rfl

set_option maxRecDepth 100000 in
set_option maxHeartbeats 2000000 in
theorem r3lower_any (s : ByteArray) (w : World) (hs : s.size ≤ 140737488355328) :
    Calls Tryz.prog 86 #[.string s] w fun e w' => e = .returned (.string (lowS s)) ∧ Below w.heap.size w w' := by
  obtain ⟨i0, hi, hz0, hz1, hz2⟩ := info_parts Tryz.infoU8
  go_enter Tryz.func86, Tryz.ntmps86
  go_wp2_with fail
  go_loopw [3, 4] (fun v i wr => ∃ k : Nat, k ≤ s.size ∧ i = .int .i64 k ∧ wr.ownsRow w.heap.size 5 1 v k (bys (lowK s k)) ∧ Below w.heap.size w wr) (fun _ i _ => s.size - (intOf i).toNat)
  case atStart => exact ⟨0, Nat.zero_le _, rfl, World.ownsRow_nil _ _ _ _, Below.refl _ _⟩
  case round =>
    obtain ⟨k, hk, rfl, hO, hB⟩ := hrel
    have HO := Lib.hid hO
    have HB := Lib.hid hB
    have hz := hB.size
    clear hO hB
    by_cases hlt : k < s.size
    · have hc := (s[k]).toNat_lt
      by_cases hu : 65 ≤ s[k].toNat ∧ s[k].toNat ≤ 90
      · obtain ⟨h1, h2⟩ := hu
        have HL := Lib.hid (low_up ⟨h1, h2⟩)
        go_wp2_with (at_builtin; refine wpList_append_own_at _ rfl (.tmp 23) (.tmp 25) 140 rfl w.heap.size 5 i0 (.int .u8 0) 1 1 Tryz.underlying140 hi hz0 hz1 hz2 rfl (by decide) _ _ _ rfl (HO.out.alloc _) ⟨wr.heap.size, 0, none⟩ 1 1 [.int .u8 ((s[k].toNat : Int) + 32)] rfl rfl (new_cells wr _ _) (by simp [Value.oneCell']) (by unfold maxLen; omega) (by omega) (by simp; omega) ?_; intro v2 w2 hown hg _ hat; have HO2 := Lib.hid hown; have HB2 := Lib.hid (below_grow HB.out (Below.refl _ _) hz (HO.out.alloc _) hg); clear hown hg hat)
        go_roundw
        case rel => exact ⟨k + 1, hlt, by go_num, by rw [lowK_succ s k hlt, bys_append]; have := HO2.out; rw [show ((s[k].toNat : Int) + 32) = ((low s[k]).toNat : Int) from by rw [HL.out]; omega] at this; exact this, HB2.out⟩
        case measure => simp [intOf]; omega
      · have HL := Lib.hid (low_id hu)
        rcases Nat.lt_or_ge s[k].toNat 65 with h1 | h1
        · clear hu
          go_wp2_with (at_builtin; refine wpList_append_own_at _ rfl (.tmp 23) (.tmp 25) 140 rfl w.heap.size 5 i0 (.int .u8 0) 1 1 Tryz.underlying140 hi hz0 hz1 hz2 rfl (by decide) _ _ _ rfl (HO.out.alloc _) ⟨wr.heap.size, 0, none⟩ 1 1 [.int .u8 (s[k].toNat : Int)] rfl rfl (new_cells wr _ _) (by simp [Value.oneCell']) (by unfold maxLen; omega) (by omega) (by simp; omega) ?_; intro v2 w2 hown hg _ hat; have HO2 := Lib.hid hown; have HB2 := Lib.hid (below_grow HB.out (Below.refl _ _) hz (HO.out.alloc _) hg); clear hown hg hat)
          go_roundw
          case rel => exact ⟨k + 1, hlt, by go_num, by rw [lowK_succ s k hlt, bys_append, HL.out]; exact HO2.out, HB2.out⟩
          case measure => simp [intOf]; omega
        · have h2 : 90 < s[k].toNat := by omega
          clear hu
          go_wp2_with (at_builtin; refine wpList_append_own_at _ rfl (.tmp 23) (.tmp 25) 140 rfl w.heap.size 5 i0 (.int .u8 0) 1 1 Tryz.underlying140 hi hz0 hz1 hz2 rfl (by decide) _ _ _ rfl (HO.out.alloc _) ⟨wr.heap.size, 0, none⟩ 1 1 [.int .u8 (s[k].toNat : Int)] rfl rfl (new_cells wr _ _) (by simp [Value.oneCell']) (by unfold maxLen; omega) (by omega) (by simp; omega) ?_; intro v2 w2 hown hg _ hat; have HO2 := Lib.hid hown; have HB2 := Lib.hid (below_grow HB.out (Below.refl _ _) hz (HO.out.alloc _) hg); clear hown hg hat)
          go_roundw
          case rel => exact ⟨k + 1, hlt, by go_num, by rw [lowK_succ s k hlt, bys_append, HL.out]; exact HO2.out, HB2.out⟩
          case measure => simp [intOf]; omega
    · have hcv := conv_own HO.out
      obtain rfl : k = s.size := by omega
      have HT : Hid (lowS s = ⟨(lowK s s.size).toArray⟩) := Lib.hid (by unfold lowS lowK; rw [List.take_of_length_le (by simp)])
      go_wp2
      go_ret
      exact ⟨ret_str HT.out.symm, HB.out⟩
set_option maxHeartbeats 8000000 in
theorem r3keyword_any (s : ByteArray) (w : World) (hs : s.size ≤ 140737488355328) :
    Calls Tryz.prog 79 #[.string s] w fun e w' => e = .returned (.bool (kwB (lowS s))) ∧ Below w.heap.size w w' := by
  have hL := r3lower_any s w hs
  generalize lowS s = x at hL ⊢
  have hK : kwB x = kwl.contains x.toList := rfl
  generalize kwB x = b at hK ⊢
  have HK := Lib.hid hK
  clear hK
  go_enter Tryz.func79, Tryz.ntmps79
  go_wp2_with (go_at_call 86; refine hL.mono ?_; rintro e w2 ⟨rfl, hB⟩)
  all_goals clear hL
  all_goals first
    | exact (tf (by assumption) (by assumption)).elim
    | (go_ret; exact ⟨ret_bool (kw_yes HK.out (by assumption) (by decide)), by assumption⟩)
    | (go_ret; exact ⟨ret_bool (by rw [HK.out]; simp only [kwl, List.contains_cons, List.contains_nil, *, Bool.or_false]), by assumption⟩)
end Go.Proofs.YtipcacplphidhaaGreat.Sy
