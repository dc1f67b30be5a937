/- What syntax's Name answers of any text: the walks of Lower, Keyword, Name. Conditions: none. -/
import Derived.Test.YtjbebhhoakmceaaSh
import Derived.Test.YtjbebhhoakmceaaJa
namespace Go.Proofs.Ytjbebhhoakmceaa
open Go.RowKit
set_option linter.unusedSimpArgs false
set_option linter.unusedVariables false

theorem ret_str {a b : ByteArray} (h : a = b) : Ending.returned (.string a) = .returned (.string b) := by rw [h]
theorem ba_ext {x y : ByteArray} (h : x.data.toList = y.data.toList) : x = y := ByteArray.ext (Array.toList_inj.1 h)
/-- The keywords, in small letters. -/
def kwl : List (List UInt8) := [[99, 114, 101, 97, 116, 101], [116, 97, 98, 108, 101], [105, 110, 100, 101, 120], [111, 110], [100, 114, 111, 112], [105, 110, 115, 101, 114, 116], [105, 110, 116, 111], [118, 97, 108, 117, 101, 115], [117, 112, 100, 97, 116, 101], [115, 101, 116], [100, 101, 108, 101, 116, 101], [102, 114, 111, 109], [119, 104, 101, 114, 101], [115, 101, 108, 101, 99, 116], [106, 111, 105, 110], [103, 114, 111, 117, 112], [98, 121], [111, 114, 100, 101, 114], [100, 101, 115, 99], [108, 105, 109, 105, 116], [98, 101, 103, 105, 110], [99, 111, 109, 109, 105, 116], [114, 111, 108, 108, 98, 97, 99, 107], [112, 114, 105, 109, 97, 114, 121], [107, 101, 121], [110, 111, 116], [110, 117, 108, 108], [105, 115], [97, 110, 100], [111, 114], [116, 114, 117, 101], [102, 97, 108, 115, 101], [105, 110, 116], [98, 111, 111, 108], [116, 101, 120, 116], [99, 111, 117, 110, 116], [115, 117, 109], [109, 105, 110], [109, 97, 120]]
/-- Whether small letters are a keyword. -/
def kwB (x : ByteArray) : Bool := kwl.contains x.toList
/-- One letter, in small. -/
def low (c : UInt8) : UInt8 := if 65 ≤ c.toNat ∧ c.toNat ≤ 90 then c + 32 else c
def lowS (s : ByteArray) : ByteArray := ⟨(s.data.toList.map low).toArray⟩
theorem lowS_list (s : ByteArray) : (lowS s).data.toList = s.data.toList.map low := by simp [lowS]
theorem lowS_size (s : ByteArray) : (lowS s).size = s.size := by
  have := congrArg List.length (lowS_list s); simpa using this
theorem low_up {c : UInt8} (h : 65 ≤ c.toNat ∧ c.toNat ≤ 90) : (low c).toNat = c.toNat + 32 := by
  unfold low; rw [if_pos h, UInt8.toNat_add]; simp; omega
theorem low_id {c : UInt8} (h : ¬ (65 ≤ c.toNat ∧ c.toNat ≤ 90)) : low c = c := by unfold low; rw [if_neg h]
def digB (c : UInt8) : Bool := decide (48 ≤ c.toNat ∧ c.toNat ≤ 57)
def nmB (c : UInt8) : Bool := decide ((97 ≤ c.toNat ∧ c.toNat ≤ 122) ∨ (48 ≤ c.toNat ∧ c.toNat ≤ 57) ∨ c.toNat = 95)
/-- Whether a text may be a name. -/
def nameB (s : ByteArray) : Bool :=
  match s.data.toList with
  | [] => false
  | c :: l => decide (l.length + 1 ≤ 16) && !digB c && (c :: l).all nmB && !kwB (lowS s)
theorem nameB_long {s : ByteArray} (h : 16 < s.size) : nameB s = false := by
  unfold nameB
  have e : s.data.toList.length = s.size := by simp
  cases h' : s.data.toList with
  | nil => rfl
  | cons c l => rw [h'] at e; simp at e; have : ¬ l.length + 1 ≤ 16 := by omega
                simp [this]
theorem nameB_dig {s : ByteArray} (h0 : 0 < s.size) (h : digB s[0] = true) : nameB s = false := by
  unfold nameB
  have e : s.data.toList[0]? = some s[0] := by
    have : s.data.toList.length = s.size := by simp
    rw [List.getElem?_eq_getElem (by omega)]; rfl
  cases h' : s.data.toList with
  | nil => rfl
  | cons c l => rw [h'] at e; simp at e; subst e; simp [h]
theorem nameB_bad {s : ByteArray} {j : Nat} (hj : j < s.size) (h : nmB s[j] = false) : nameB s = false := by
  unfold nameB
  have e : s[j] ∈ s.data.toList := by
    have : s.data.toList.length = s.size := by simp
    exact List.mem_of_getElem? (i := j) (by rw [List.getElem?_eq_getElem (by omega)]; rfl)
  cases h' : s.data.toList with
  | nil => rfl
  | cons c l =>
    rw [h'] at e
    have : (c :: l).all nmB = false := by
      rw [Bool.eq_false_iff]
      intro h2
      have := List.all_eq_true.1 h2 _ e
      rw [h] at this; cases this
    simp only [this]; simp
theorem nameB_kw {s : ByteArray} (h : kwB (lowS s) = true) : nameB s = false := by
  unfold nameB
  cases s.data.toList <;> simp [h]
theorem nameB_yes {s : ByteArray} (h0 : 0 < s.size) (h1 : s.size ≤ 16) (h2 : digB s[0] = false) (h3 : ∀ j (hj : j < s.size), nmB s[j] = true) : nameB s = !kwB (lowS s) := by
  unfold nameB
  have hl : s.data.toList.length = s.size := by simp
  have e : s.data.toList[0]? = some s[0] := by
    rw [List.getElem?_eq_getElem (by omega)]; rfl
  have hall : s.data.toList.all nmB = true := by
    rw [List.all_eq_true]
    intro c hc
    obtain ⟨j, hj, rfl⟩ := List.mem_iff_getElem.1 hc
    exact h3 j (by omega)
  cases h' : s.data.toList with
  | nil => rw [h'] at hl; simp at hl; omega
  | cons c l =>
    rw [h'] at e hall hl
    simp at e hl
    subst e
    have : l.length + 1 ≤ 16 := by omega
    simp only [hall, h2, this]; simp
theorem Try.infoU8 : (Try.prog.info? 5).map (fun i => (i.zero, i.size, i.bytes)) = some (some (.int .u8 0), 1, 1) := by kernel_rfl
/-- T is a type at whose beginning a builder lies, alone. -/
def BT (T : TypeId) : Prop := T ≠ 5 ∧ liesAt Try.prog Try.prog.depth T (2 / Try.prog.cellsOf T) 0 106 1 = true
theorem BT_b : BT 106 := ⟨by decide, by kernel_rfl⟩
set_option maxRecDepth 100000 in
set_option maxHeartbeats 1000000 in
theorem copyCheck_used (b : Nat) (w : World) (h0 : w.cell? ⟨b, 0, none⟩ = some (.pointer (some ⟨b, 0, none⟩))) :
    Calls Try.prog 67 #[.pointer (some ⟨b, 0, none⟩)] w fun e w' => e = .returned (.tuple #[]) ∧ w' = w := by
  obtain ⟨j, hj, hjs⟩ := Option.map_eq_some_iff.1 (show (Try.prog.info? 106).map (·.size) = some 2 by kernel_rfl)
  go_enter Try.func67, Try.ntmps67
  go_wp2
  rw [Lib.run_neq_ptr_same w _ Try.underlying104 hj]
  go_wp2
  go_end0
  exact ⟨rfl, rfl⟩
set_option maxRecDepth 100000 in
set_option maxHeartbeats 1000000 in
theorem copyCheck_fresh {T : TypeId} (hT : BT T) (b : Nat) (w : World) (h0 : w.cell? ⟨b, 0, none⟩ = some (.pointer none)) (hsh : w.shape? b = some (T, 2)) (hfz : w.frozen? ⟨b, 0, none⟩ = false) :
    Calls Try.prog 67 #[.pointer (some ⟨b, 0, none⟩)] w fun e w' => e = .returned (.tuple #[]) ∧ w' = w.setCell ⟨b, 0, none⟩ (.pointer (some ⟨b, 0, none⟩)) := by
  obtain ⟨j, hj, hjs⟩ := Option.map_eq_some_iff.1 (show (Try.prog.info? 106).map (·.size) = some 2 by kernel_rfl)
  go_enter Try.func67, Try.ntmps67
  go_wp2
  rw [Lib.run_to_unsafe w ⟨b, 0, none⟩ Try.underlying104 Try.underlying112 hj (by rw [hjs]; decide) hsh (Nat.zero_lt_succ 1)]
  simp only [Result.andThen]
  rw [Oper.upon_value]
  go_wp2
  rw [run_callFunc_extern Try.func69 (by kernel_rfl) (by kernel_rfl) (by kernel_rfl) (e := Extern.AbiNoEscape.same) (by kernel_rfl)]
  rw [Lib.run_noEscape]
  simp only [Result.andThen]
  rw [Oper.upon_value]
  go_wp2
  rw [Lib.run_from_unsafe w ⟨b, 0, none⟩ Try.underlying112 Try.underlying104 hj hsh hT.2]
  simp only [Result.andThen]
  rw [Oper.upon_value]
  go_wp2
  go_end0
  exact ⟨rfl, rfl⟩
theorem copyCheck_any {T : TypeId} (hT : BT T) (B b : Nat) (bs : List Value) (w : World) (h : Lib.IsBuilderF T 5 B b bs w) :
    Calls Try.prog 67 #[.pointer (some ⟨b, 0, none⟩)] w fun e w' => e = .returned (.tuple #[]) ∧ (Lib.BuilderAtF T 5 B b (.pointer (some ⟨b, 0, none⟩)) bs w' ∧ Below B w w' ∧ Lib.OthersKept 5 (some b) w w') := by
  rcases h with h | h
  · refine (copyCheck_fresh hT b w h.cell0 h.shape h.frozen0).mono ?_
    rintro e w' ⟨rfl, rfl⟩
    exact ⟨rfl, h.used _, (Below.refl B w).setCell (p := ⟨b, 0, none⟩) h.1 _, (Lib.OthersKept.refl _ _ w).setCell ⟨b, 0, none⟩ rfl _⟩
  · refine (copyCheck_used b w h.cell0).mono ?_
    rintro e w' ⟨rfl, rfl⟩
    exact ⟨rfl, h, Below.refl B _, Lib.OthersKept.refl _ _ _⟩
set_option maxHeartbeats 2000000 in
theorem writeByte_any {T : TypeId} (hT : BT T) (B b : Nat) (bs : List Value) (c : Int) (w : World) (h : Lib.IsBuilderF T 5 B b bs w) (hlen : bs.length + 1 ≤ 140737488355328) (hBw : B ≤ w.heap.size) :
    Calls Try.prog 65 #[.pointer (some ⟨b, 0, none⟩), .int .u8 c] w fun e w' => e = .returned .nilIface ∧ (Lib.BuilderAtF T 5 B b (.pointer (some ⟨b, 0, none⟩)) (bs ++ [.int .u8 c]) w' ∧ Below B w w' ∧ Lib.OthersKept 5 (some b) w w') := by
  obtain ⟨i0, hi, hz0, hz1, hz2⟩ := info_parts Try.infoU8
  go_enter Try.func65, Try.ntmps65
  go_wp2_with (go_at_call 67; refine (copyCheck_any hT B b bs _ h).mono ?_)
  rintro e w1 ⟨rfl, h1, hb1, hk1⟩
  obtain ⟨hB, v, hbk, hown, hne⟩ := h1
  have c0 : w1.cell? ⟨b, 0, none⟩ = some (.pointer (some ⟨b, 0, none⟩)) := by rw [Lib.cell_of_heap hbk]; rfl
  have c1 : w1.cell? ⟨b, 1, none⟩ = some v := by rw [Lib.cell_of_heap hbk]; rfl
  go_wp2_with (at_builtin; refine wpList_append_ownF _ rfl _ _ 93 rfl B 5 i0 (.int .u8 0) 1 1 Try.underlying93 hi hz0 hz1 hz2 rfl (by decide) _ _ _ rfl (hown.alloc _) ⟨w1.heap.size, 0, none⟩ 1 1 [.int .u8 c] rfl rfl ?c1 ?c2 ?c3 ?c4 ?c5 ?_)
  case c1 =>
    intro j u hj
    match j, hj with
    | 0, hj => simp at hj; subst hj; simp [Addr.add]
  case c2 => intro u hu; simp at hu; subst hu; rfl
  case c3 => unfold maxLen; omega
  case c4 => omega
  case c5 => have := hb1.size; simp; omega
  intro v' w2 hown' hgrow _
  have hlt : b < w1.heap.size := by
    rcases Nat.lt_or_ge b w1.heap.size with h' | h'
    · exact h'
    · simp [Array.getElem?_eq_none h'] at hbk
  have hb2 : w2.heap[b]? = some (.cells #[.pointer (some ⟨b, 0, none⟩), v] T (0, 0)) := by
    rw [hgrow.block b (by simp; omega) (fun e => hne e.symm), Lib.alloc_old w1 _ b hlt]
    exact hbk
  have d0 : w2.cell? ⟨b, 0, none⟩ = some (.pointer (some ⟨b, 0, none⟩)) := by rw [Lib.cell_of_heap hb2]; rfl
  have d1 : w2.cell? ⟨b, 1, none⟩ = some v := by rw [Lib.cell_of_heap hb2]; rfl
  have f1 : w2.frozen? ⟨b, 1, none⟩ = false := Lib.frozen_of_heap hb2 1
  obtain ⟨g, cap, rfl⟩ : ∃ g cap, v' = .slice (some ⟨g, 0, none⟩) (bs.length + 1) cap := by
    rcases hown'.2 with ⟨_, h0⟩ | ⟨g, cap, cur, fz, hv, _⟩
    · omega
    · exact ⟨g, cap, hv⟩
  go_wp2
  go_ret
  refine ⟨rfl, ?_, ?_, ((hk1.alloc _).grown hgrow (Lib.ownsRowF_kind (hown.alloc _))).setCell ⟨b, 1, none⟩ rfl _⟩
  · exact Lib.BuilderAtF.put (T := T) (e := 5) hB hb2 (bs' := bs ++ [.int .u8 c]) (by simpa using hown') hT.1
  · exact ((hb1.alloc (by have := hb1.size; omega) _).grown hgrow (by have := hb1.size; simp; omega) (fun k hk => (hown.lt k hk).1)).setCell (p := ⟨b, 1, none⟩) hB _
/-- The small letters of the first k octets, as cells. -/
def lowC (s : ByteArray) (k : Nat) : List Value := Lib.byteCells ((s.data.toList.take k).map low)
theorem lowC_succ (s : ByteArray) (k : Nat) (h : k < s.size) : lowC s (k + 1) = lowC s k ++ [.int .u8 ((low s[k]).toNat : Int)] := by
  unfold lowC
  have e : s.data.toList.take (k + 1) = s.data.toList.take k ++ [s[k]] := by
    rw [List.take_succ_eq_append_getElem (by simpa using h)]; rfl
  rw [e, List.map_append, Lib.byteCells_append]
  rfl
theorem lowC_length (s : ByteArray) (k : Nat) (h : k ≤ s.size) : (lowC s k).length = k := by
  unfold lowC; rw [Lib.byteCells_length, List.length_map, List.length_take]; simp; omega
theorem lowC_all (s : ByteArray) : lowC s s.size = Lib.byteCells (s.data.toList.map low) := by
  unfold lowC; rw [List.take_of_length_le (by simp)]
set_option maxHeartbeats 2000000 in
theorem lower_any (s : ByteArray) (w : World) (hs : s.size ≤ 140737488355328) :
    Calls Try.prog 63 #[.string s] w fun e w' => e = .returned (.string (lowS s)) ∧ Below w.heap.size w w' := by
  have HS := Lib.hid hs
  have hs' : s.size ≤ 9223372036854775807 := by omega
  clear hs
  have hgrow : Calls Try.prog 64 #[.pointer (some ⟨w.heap.size, 0, none⟩), .int .i64 s.size] (w.alloc (.cells #[.pointer none, .slice none 0 0] 106)) fun e w' => e = .returned (.tuple #[]) ∧ (Lib.BuilderAt 106 5 w.heap.size w.heap.size (.pointer (some ⟨w.heap.size, 0, none⟩)) [] w' ∧ Below w.heap.size (w.alloc (.cells #[.pointer none, .slice none 0 0] 106)) w') :=
    Try.Builder_Grow_fresh _ _ s.size _ (Nat.le_refl _) (heap_alloc_new w _) (by simp) (by have := HS.out; omega)
  go_enter Try.func63, Try.ntmps63
  go_wp2_with (go_at_call 64; refine hgrow.mono ?_; rintro e w1 ⟨rfl, hI, hB⟩; have HI := Lib.hid hI; have HB := Lib.hid hB; clear hI hB)
  clear hgrow
  go_loopw [11] (fun i wr => ∃ k : Nat, k ≤ s.size ∧ i = .int .i64 k ∧ Lib.IsBuilderF 106 5 w.heap.size w.heap.size (lowC s k) wr ∧ Below w.heap.size w wr) (fun i _ => s.size - (intOf i).toNat)
  case atStart => exact ⟨0, Nat.zero_le _, rfl, Lib.IsBuilderF.of (.inr HI.out), ((Below.refl _ w).alloc (Nat.le_refl _) _).trans HB.out⟩
  case round =>
    clear HI HB
    obtain ⟨k, hk, rfl, hI, hB⟩ := hrel
    have HI := Lib.hid hI
    have HB := Lib.hid hB
    clear hI hB
    by_cases hlt : k < s.size
    · have hw := fun (c : Int) => writeByte_any BT_b w.heap.size w.heap.size (lowC s k) c wr HI.out (by rw [lowC_length s k hk]; have := HS.out; omega) (HB.out.size)
      have hc := (s[k]).toNat_lt
      by_cases hu : 65 ≤ s[k].toNat ∧ s[k].toNat ≤ 90
      · obtain ⟨h1, h2⟩ := hu
        have HL := Lib.hid (low_up ⟨h1, h2⟩)
        go_wp2_with (go_at_call 65; refine (hw _).mono ?_; rintro e w2 ⟨rfl, hI, hB, _⟩)
        go_roundw
        case rel => exact ⟨k + 1, hlt, by go_num, .inr (by rw [lowC_succ s k hlt, HL.out]; assumption), HB.out.trans (by assumption)⟩
        case measure => simp [intOf]; omega
      · have HL := Lib.hid (low_id hu)
        rcases Nat.lt_or_ge s[k].toNat 65 with h1 | h1
        · clear hu
          go_wp2_with (go_at_call 65; refine (hw _).mono ?_; rintro e w2 ⟨rfl, hI, hB, _⟩)
          go_roundw
          case rel => exact ⟨k + 1, hlt, by go_num, .inr (by rw [lowC_succ s k hlt, HL.out]; assumption), HB.out.trans (by assumption)⟩
          case measure => simp [intOf]; omega
        · have h2 : 90 < s[k].toNat := by omega
          clear hu
          go_wp2_with (go_at_call 65; refine (hw _).mono ?_; rintro e w2 ⟨rfl, hI, hB, _⟩)
          go_roundw
          case rel => exact ⟨k + 1, hlt, by go_num, .inr (by rw [lowC_succ s k hlt, HL.out]; assumption), HB.out.trans (by assumption)⟩
          case measure => simp [intOf]; omega
    · obtain rfl : k = s.size := by omega
      have hst := Try.Builder_String_any_k w.heap.size w.heap.size (s.data.toList.map low) wr (by rw [← lowC_all]; exact HI.out) HB.out.size
      go_wp2_with (go_at_call 66; refine hst.mono ?_; rintro e w2 ⟨rfl, hI, hB, _⟩)
      go_ret
      exact ⟨rfl, HB.out.trans (by assumption)⟩
theorem tf {a : Bool} (h1 : a = true) (h2 : a = false) : False := by rw [h1] at h2; cases h2
theorem kw_yes {b : Bool} {x : ByteArray} {l : List UInt8} (h : b = kwl.contains x.toList) (h1 : (x.toList == l) = true) (h2 : kwl.contains l = true) : true = b := by
  rw [h, eq_of_beq h1, h2]
set_option maxHeartbeats 8000000 in
theorem keyword_any (s : ByteArray) (w : World) (hs : s.size ≤ 140737488355328) :
    Calls Try.prog 62 #[.string s] w fun e w' => e = .returned (.bool (kwB (lowS s))) ∧ Below w.heap.size w w' := by
  have hL := lower_any s w hs
  generalize lowS s = x at hL ⊢
  have hK : kwB x = kwl.contains x.toList := rfl
  generalize kwB x = b at hK ⊢
  have HK := Lib.hid hK
  clear hK
  go_enter Try.func62, Try.ntmps62
  go_wp2_with (go_at_call 63; refine hL.mono ?_; rintro e w2 ⟨rfl, hB⟩)
  all_goals clear hL
  all_goals first
    | exact (tf (by assumption) (by assumption)).elim
    | (go_ret; exact ⟨ret_bool (kw_yes HK.out (by assumption) (by decide)), by assumption⟩)
    | (go_ret; exact ⟨ret_bool (by rw [HK.out]; simp only [kwl, List.contains_cons, List.contains_nil, *, Bool.or_false]), by assumption⟩)
set_option maxHeartbeats 400000 in
theorem sisDigit_any (c : UInt8) (w : World) : Calls Try.prog 60 #[.int .u8 (c.toNat : Int)] w fun e w' => e = .returned (.bool (digB c)) ∧ w = w' := by
  have hc := c.toNat_lt
  go_enter Try.func60, Try.ntmps60
  go_wp2
  all_goals go_ret
  all_goals exact ⟨ret_bool (by rw [Bool.eq_iff_iff]; simp [digB]; omega), rfl⟩
set_option maxHeartbeats 400000 in
theorem sisWithinName_any (c : UInt8) (w : World) : Calls Try.prog 61 #[.int .u8 (c.toNat : Int)] w fun e w' => e = .returned (.bool (nmB c)) ∧ w = w' := by
  have hc := c.toNat_lt
  have hd := fun w => sisDigit_any c w
  go_enter Try.func61, Try.ntmps61
  go_wp2_with (go_at_call 60; refine (hd _).mono ?_; rintro e w1 ⟨rfl, rfl⟩)
  all_goals go_ret
  all_goals (try simp only [beq_iff_eq, beq_eq_false_iff_ne, ne_eq, digB, decide_eq_true_eq, decide_eq_false_iff_not] at *)
  all_goals exact ⟨ret_bool (by rw [Bool.eq_iff_iff]; simp [nmB, digB]; omega), by first | rfl | trivial⟩
/-- What Keyword is to answer. -/
def KwPost (s : ByteArray) (w : World) (e : Ending) (w' : World) : Prop := e = .returned (.bool (kwB (lowS s))) ∧ Below w.heap.size w w'
theorem empty_of {s : ByteArray} (h : s.size = 0) : s = ⟨#[]⟩ := ba_ext (by
  have : s.data.toList.length = 0 := by simpa using h
  rw [List.eq_nil_of_length_eq_zero this])
theorem toList_ne {s : ByteArray} (h : 0 < s.size) : s.toList ≠ [] := by
  intro e
  rw [ByteArray.toList_eq] at e
  have h3 : s.data.toList.length = s.size := by simp
  rw [e] at h3
  simp at h3
  omega
set_option maxHeartbeats 1000000 in
theorem sName_of (s : ByteArray) (w : World) (hK : s.size ≤ 16 → ∀ w, Calls Try.prog 62 #[.string s] w (KwPost s w)) :
    Calls Try.prog 54 #[.string s] w fun e w' => e = .returned (.bool (nameB s)) ∧ Below w.heap.size w w' := by
  rcases Nat.eq_zero_or_pos s.size with h0 | h0
  · obtain rfl := empty_of h0
    clear hK
    go_enter Try.func54, Try.ntmps54
    go_wp2
    go_ret
    exact ⟨rfl, Below.refl _ _⟩
  have hne := toList_ne h0
  have hne2 : s.toList.isEmpty = false := by simp [hne]
  rcases Nat.lt_or_ge 16 s.size with h1 | h1
  · have HN := Lib.hid (nameB_long h1)
    clear hK
    go_enter Try.func54, Try.ntmps54
    go_wp2
    go_ret
    exact ⟨ret_bool HN.out.symm, Below.refl _ _⟩
  have hd := fun w => sisDigit_any s[0] w
  have HK := Lib.hid (hK h1)
  have hd16 : decide ((16 : Int) < (s.size : Int)) = false := by simp; omega
  clear hK
  cases hdg : digB s[0]
  · rw [hdg] at hd
    have HD := Lib.hid hdg
    have HDD := Lib.hid hd
    clear hdg hd
    have hle : s.size ≤ 9223372036854775807 := by omega
    have HW := Lib.hid (fun (c : UInt8) (w : World) => sisWithinName_any c w)
    go_enter Try.func54, Try.ntmps54
    go_wp2_with (go_at_call 60; refine (HDD.out _).mono ?_; rintro e w1 ⟨rfl, rfl⟩)
    go_loop [18] (fun i => ∃ j : Nat, j ≤ s.size ∧ i = .int .i64 j ∧ ∀ k (hk : k < s.size), k < j → nmB s[k] = true) (fun i => s.size - (intOf i).toNat)
    case atStart => exact ⟨0, by omega, rfl, fun k hk h => by omega⟩
    case round =>
      obtain ⟨j, hj, rfl, hall⟩ := hrel
      have HA := Lib.hid hall
      clear hall
      by_cases hlt : j < s.size
      · have hw := fun w => HW.out s[j] w
        cases hnm : nmB s[j]
        · rw [hnm] at hw
          have HWW := Lib.hid hw
          have HN := Lib.hid (nameB_bad hlt hnm)
          clear hnm hw
          go_wp2_with (go_at_call 61; refine (HWW.out _).mono ?_; rintro e w1 ⟨rfl, rfl⟩)
          go_ret
          exact ⟨ret_bool HN.out.symm, Below.refl _ _⟩
        · rw [hnm] at hw
          have HWW := Lib.hid hw
          have HA2 : Hid (∀ k (hk : k < s.size), k < j + 1 → nmB s[k] = true) := Lib.hid (fun k hk h => by
            rcases Nat.lt_or_ge k j with h' | h'
            · exact HA.out k hk h'
            · obtain rfl : k = j := by omega
              exact hnm)
          clear hnm hw
          go_wp2_with (go_at_call 61; refine (HWW.out _).mono ?_; rintro e w1 ⟨rfl, rfl⟩)
          go_round
          case rel => exact ⟨j + 1, by omega, by go_num, HA2.out⟩
          case measure => simp [intOf]; omega
      · have HN := Lib.hid (nameB_yes h0 h1 HD.out fun k hk => HA.out k hk (by omega))
        go_wp2_with (go_at_call 62; refine (HK.out _).mono ?_; rintro e w1 ⟨rfl, hb⟩)
        go_ret
        exact ⟨ret_bool HN.out.symm, by assumption⟩
  · rw [hdg] at hd
    have HN := Lib.hid (nameB_dig h0 hdg)
    have HDD := Lib.hid hd
    clear hdg hd
    go_enter Try.func54, Try.ntmps54
    go_wp2_with (go_at_call 60; refine (HDD.out _).mono ?_; rintro e w1 ⟨rfl, rfl⟩)
    go_ret
    exact ⟨ret_bool HN.out.symm, Below.refl _ _⟩

theorem sName_any (s : ByteArray) (w : World) : Calls Try.prog 54 #[.string s] w fun e w' => e = .returned (.bool (nameB s)) ∧ Below w.heap.size w w' :=
  sName_of s w fun h w => keyword_any s w (by omega)
end Go.Proofs.Ytjbebhhoakmceaa
