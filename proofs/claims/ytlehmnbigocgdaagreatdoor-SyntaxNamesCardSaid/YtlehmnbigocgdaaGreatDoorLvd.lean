/- What Lower and strings.Clone answer: the walks. Conditions: a text's length as every machine keeps it. -/
import Derived.Test.YtlehmnbigocgdaaGreatDoorLba
namespace Go.Proofs.YtlehmnbigocgdaaGreatDoor.Lx
open Go.RowKit
set_option linter.unusedSimpArgs false
set_option linter.unusedVariables false

def lowS (s : ByteArray) : ByteArray := ⟨(s.data.toList.map low).toArray⟩
theorem lowS_list (s : ByteArray) : (lowS s).data.toList = s.data.toList.map low := by simp [lowS]
theorem lowS_size (s : ByteArray) : (lowS s).size = s.size := by
  have := congrArg List.length (lowS_list s); simpa using this

theorem low_up {c : UInt8} (h : 65 ≤ c.toNat ∧ c.toNat ≤ 90) : (low c).toNat = c.toNat + 32 := by
  unfold low; rw [if_pos h, UInt8.toNat_add]; simp; omega
theorem low_id {c : UInt8} (h : ¬ (65 ≤ c.toNat ∧ c.toNat ≤ 90)) : low c = c := by unfold low; rw [if_neg h]
/-- The small letters of the first k octets, as cells. -/
def lowC (s : ByteArray) (k : Nat) : List Value := Lib.byteCells ((s.data.toList.take k).map low)
theorem lowC_succ (s : ByteArray) (k : Nat) (h : k < s.size) : lowC s (k + 1) = lowC s k ++ [.int .u8 ((low s[k]).toNat : Int)] := by
  unfold lowC
  have e : s.data.toList.take (k + 1) = s.data.toList.take k ++ [s[k]] := by
    rw [List.take_succ_eq_append_getElem (by simpa using h)]; rfl
  rw [e, List.map_append, Lib.byteCells_append]
  rfl
theorem lowC_length (s : ByteArray) (k : Nat) (h : k ≤ s.size) : (lowC s k).length = k := by
  unfold lowC; rw [Lib.byteCells_length, List.length_map, List.length_take]; simp; omega
theorem lowC_all (s : ByteArray) : lowC s s.size = Lib.byteCells (s.data.toList.map low) := by
  unfold lowC; rw [List.take_of_length_le (by simp)]

set_option maxHeartbeats 2000000 in
theorem lower_any (s : ByteArray) (w : World) (hs : s.size ≤ 140737488355328) :
    Calls Tryz.prog 53 #[.string s] w fun e w' => e = .returned (.string (lowS s)) ∧ Below w.heap.size w w' := by
  have HS := Lib.hid hs
  have hs' : s.size ≤ 9223372036854775807 := by omega
  clear hs
  have hgrow : Calls Tryz.prog 99 #[.pointer (some ⟨w.heap.size, 0, none⟩), .int .i64 s.size] (w.alloc (.cells #[.pointer none, .slice none 0 0] 60)) fun e w' => e = .returned (.tuple #[]) ∧ (Lib.BuilderAt 60 5 w.heap.size w.heap.size (.pointer (some ⟨w.heap.size, 0, none⟩)) [] w' ∧ Below w.heap.size (w.alloc (.cells #[.pointer none, .slice none 0 0] 60)) w') :=
    Tryz.Builder_Grow_fresh _ _ s.size _ (Nat.le_refl _) (heap_alloc_new w _) (by simp) (by have := HS.out; omega)
  go_enter Tryz.func53, Tryz.ntmps53
  go_wp2_with (go_at_call 99; refine hgrow.mono ?_; rintro e w1 ⟨rfl, hI, hB⟩; have HI := Lib.hid hI; have HB := Lib.hid hB; clear hI hB)
  clear hgrow
  go_loopw [11] (fun i wr => ∃ k : Nat, k ≤ s.size ∧ i = .int .i64 k ∧ Lib.IsBuilderF 60 5 w.heap.size w.heap.size (lowC s k) wr ∧ Below w.heap.size w wr) (fun i _ => s.size - (intOf i).toNat)
  case atStart => exact ⟨0, Nat.zero_le _, rfl, Lib.IsBuilderF.of (.inr HI.out), ((Below.refl _ w).alloc (Nat.le_refl _) _).trans HB.out⟩
  case round =>
    clear HI HB
    obtain ⟨k, hk, rfl, hI, hB⟩ := hrel
    have HI := Lib.hid hI
    have HB := Lib.hid hB
    clear hI hB
    by_cases hlt : k < s.size
    · have hw := fun (c : Int) => writeByte_any w.heap.size w.heap.size (lowC s k) c wr HI.out (by rw [lowC_length s k hk]; have := HS.out; omega) (HB.out.size)
      have hc := (s[k]).toNat_lt
      by_cases hu : 65 ≤ s[k].toNat ∧ s[k].toNat ≤ 90
      · obtain ⟨h1, h2⟩ := hu
        have HL := Lib.hid (low_up ⟨h1, h2⟩)
        go_wp2_with (go_at_call 100; refine (hw _).mono ?_; rintro e w2 ⟨rfl, hI, hB, _⟩)
        go_roundw
        case rel => exact ⟨k + 1, hlt, by go_num, .inr (by rw [lowC_succ s k hlt, HL.out]; assumption), HB.out.trans (by assumption)⟩
        case measure => simp [intOf]; omega
      · have HL := Lib.hid (low_id hu)
        rcases Nat.lt_or_ge s[k].toNat 65 with h1 | h1
        · clear hu
          go_wp2_with (go_at_call 100; refine (hw _).mono ?_; rintro e w2 ⟨rfl, hI, hB, _⟩)
          go_roundw
          case rel => exact ⟨k + 1, hlt, by go_num, .inr (by rw [lowC_succ s k hlt, HL.out]; assumption), HB.out.trans (by assumption)⟩
          case measure => simp [intOf]; omega
        · have h2 : 90 < s[k].toNat := by omega
          clear hu
          go_wp2_with (go_at_call 100; refine (hw _).mono ?_; rintro e w2 ⟨rfl, hI, hB, _⟩)
          go_roundw
          case rel => exact ⟨k + 1, hlt, by go_num, .inr (by rw [lowC_succ s k hlt, HL.out]; assumption), HB.out.trans (by assumption)⟩
          case measure => simp [intOf]; omega
    · obtain rfl : k = s.size := by omega
      have hst := Tryz.Builder_String_any_k w.heap.size w.heap.size (s.data.toList.map low) wr (by rw [← lowC_all]; exact HI.out) HB.out.size
      go_wp2_with (go_at_call 25; refine hst.mono ?_; rintro e w2 ⟨rfl, hI, hB, _⟩)
      go_ret
      exact ⟨rfl, HB.out.trans (by assumption)⟩

set_option maxHeartbeats 400000 in
theorem clone_any (s : ByteArray) (w : World) (hs : s.size ≤ 140737488355328) :
    Calls Tryz.prog 125 #[.string s] w fun e w' => e = .returned (.string s) ∧ Below w.heap.size w w' := by
  have h := Tryz.stringslite_Clone s w (by omega)
  go_enter Tryz.func125, Tryz.ntmps125
  go_wp2_with (go_at_call 139; refine h.mono ?_; rintro e w2 ⟨rfl, hB⟩)
  go_ret
  exact ⟨rfl, by assumption⟩
end Go.Proofs.YtlehmnbigocgdaaGreatDoor.Lx
