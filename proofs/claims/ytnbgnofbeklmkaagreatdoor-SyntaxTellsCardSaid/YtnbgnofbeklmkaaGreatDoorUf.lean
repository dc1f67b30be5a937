/- How a value and a column are printed: the walks of literal and column. Conditions: a value that may be; the tables that strconv and strings read, as they are laid; lengths that every machine keeps. -/
import Derived.Test.YtnbgnofbeklmkaaGreatDoorUc
import Derived.Test.YtnbgnofbeklmkaaGreatDoorUe
namespace Go.Proofs.YtnbgnofbeklmkaaGreatDoor
open Go.RowKit
set_option linter.unusedSimpArgs false
set_option linter.unusedVariables false

/-- What the library's variables hold, in blocks below B. -/
def Env (B : Nat) (w : World) : Prop := (0 < B ∧ 3 < B) ∧ (∃ m : Int, w.cell? ⟨0, 0, none⟩ = some (.int .i64 m)) ∧ Lib.TabIs Tryz.prog w "internal/strconv.uint64pow10" .u64 Lib.pow10Tab
theorem globalPow : Tryz.prog.globalNamed "internal/strconv.uint64pow10" = some 3 := by kernel_rfl
theorem Env.below {B : Nat} {w w' : World} (h : Env B w) (hb : Below B w w') : Env B w' := by
  obtain ⟨h1, ⟨m, h2⟩, h3⟩ := h
  refine ⟨h1, ⟨m, (hb.cell (p := ⟨0, 0, none⟩) h1.1).trans h2⟩, ?_⟩
  unfold Lib.TabIs World.var? at h3 ⊢
  rw [globalPow] at h3 ⊢
  simp only [Option.bind_some] at h3 ⊢
  rw [hb.block _ h1.2]
  exact h3
theorem Env.mono {B B' : Nat} {w : World} (h : Env B w) (hB : B ≤ B') : Env B' w := ⟨⟨Nat.lt_of_lt_of_le h.1.1 hB, Nat.lt_of_lt_of_le h.1.2 hB⟩, h.2⟩
theorem Env.step {B : Nat} {w w' : World} (h : Env B w) (hB : B ≤ w.heap.size) (hb : Below w.heap.size w w') : Env B w' := h.below (hb.mono hB)
theorem Env.start {w : World} {m : Int} (h1 : w.cell? ⟨0, 0, none⟩ = some (.int .i64 m)) (h2 : Lib.TabIs Tryz.prog w "internal/strconv.uint64pow10" .u64 Lib.pow10Tab) : Env w.heap.size w := by
  refine ⟨⟨cell_lt h1, ?_⟩, ⟨m, h1⟩, h2⟩
  unfold Lib.TabIs World.var? at h2
  rw [globalPow] at h2
  simp only [Option.bind_some] at h2
  rcases Nat.lt_or_ge 3 w.heap.size with h' | h'
  · exact h'
  · rw [Array.getElem?_eq_none h'] at h2; cases h2
theorem mk_size (l : List UInt8) : (⟨l.toArray⟩ : ByteArray).size = l.length := by rw [← bsz]
theorem below_grown0 {w : World} (k : Nat) (os : Array Obj) : Below w.heap.size w (Sort.grow (w.drewN k) os) := by
  refine ⟨rfl, rfl, rfl, ?_, fun j hj => ?_⟩
  · show w.heap.size ≤ (w.heap ++ os).size
    rw [Array.size_append]; omega
  · show (w.heap ++ os)[j]? = w.heap[j]?
    rw [Array.getElem?_append_left hj]
theorem itoa_any (m : Nat) (h : m ≤ 9223372036854775807) (B : Nat) (w : World) (he : Env B w) :
    Calls Tryz.prog 137 #[.int .i64 m] w fun e w' => e = .returned (.string ⟨(dec m).toArray⟩) ∧ Below w.heap.size w w' := by
  refine (Tryz.strconv_Itoa m (by omega) (by omega) w he.2.2).mono ?_
  rintro e w' ⟨rfl, k, os, rfl⟩
  exact ⟨by rw [dec_itoa m h], below_grown0 k os⟩
theorem replace_any (s : ByteArray) (hs : s.size ≤ 64) (B : Nat) (w : World) (he : Env B w) :
    Calls Tryz.prog 162 #[.string s, .string ⟨#[39]⟩, .string ⟨#[39, 39]⟩] w fun e w' => e = .returned (.string ⟨(esc s.data.toList).toArray⟩) ∧ Below w.heap.size w w' := by
  obtain ⟨_, ⟨m, hm⟩, _⟩ := he
  refine (Tryz.strings_ReplaceAll s ⟨#[39]⟩ ⟨#[39, 39]⟩ m w (by omega) hm (by decide) ?_).mono ?_
  · have h1 : Lib.countB s ⟨#[39]⟩ ≤ s.size + 1 := by
      have := Lib.count_le s.data.toList (⟨#[39]⟩ : ByteArray).data.toList
      rw [bsz] at this
      exact this
    have h2 : (⟨#[39, 39]⟩ : ByteArray).size = 2 := rfl
    rw [h2]
    omega
  · rintro e w' ⟨rfl, hb⟩
    exact ⟨by rw [← repl_all s.data.toList], hb⟩

set_option maxHeartbeats 2000000 in
set_option maxRecDepth 100000 in
theorem literal_null (B b : Nat) (l : List UInt8) (n : Int) (s : ByteArray) (w : World) (hp : Pr B b l w) (hB : B ≤ w.heap.size) (hlen : l.length + 4 ≤ 140737488355328) :
    Calls Tryz.prog 130 #[.pointer (some ⟨b, 0, none⟩), .agg #[.int .i64 0, .int .i64 n, .string s]] w fun e w' => e = .returned (.tuple #[]) ∧ Put B b (l ++ [78, 85, 76, 76]) w w' := by
  have HP := Lib.hid hp
  clear hp
  go_enter Tryz.func130, Tryz.ntmps130
  go_wp2_with (go_at_call 69; refine (put1 B b l ⟨#[78, 85, 76, 76]⟩ _ _ (by simp) ((HP.out.alloc _).alloc _) (by simp; omega) hlen).mono ?_; rintro e w2 ⟨rfl, hput⟩)
  go_end0
  exact ⟨rfl, Put.ahead hB (below2 _ _ _) hput⟩

set_option maxHeartbeats 2000000 in
set_option maxRecDepth 100000 in
theorem literal_num (B b : Nat) (l : List UInt8) (m : Nat) (hm : m ≤ 9223372036854775807) (s : ByteArray) (w : World) (hp : Pr B b l w) (hB : B ≤ w.heap.size) (he : Env B w) (hlen : l.length + (dec m).length ≤ 140737488355328) :
    Calls Tryz.prog 130 #[.pointer (some ⟨b, 0, none⟩), .agg #[.int .i64 1, .int .i64 m, .string s]] w fun e w' => e = .returned (.tuple #[]) ∧ Put B b (l ++ dec m) w w' := by
  have HP := Lib.hid hp
  have HI := Lib.hid fun w' (hb : Below w.heap.size w w') => itoa_any m hm B w' (he.step hB hb)
  clear hp he
  have hD : (⟨(dec m).toArray⟩ : ByteArray).data.toList = dec m := rfl
  have hz := mk_size (dec m)
  generalize (⟨(dec m).toArray⟩ : ByteArray) = D at HI hD hz
  rw [← hz] at hlen
  have HD := Lib.hid hD
  clear hD hz
  go_enter Tryz.func130, Tryz.ntmps130
  go_wp2_with (first | (go_at_call 137; refine (HI.out _ (below2 _ _ _)).mono ?_; rintro e w1 ⟨rfl, hb⟩; have HB := Lib.hid (below_of2 hb); clear hb) | (go_at_call 69; refine (put1 B b l D _ _ rfl (HP.out.below HB.out) (Nat.le_trans hB HB.out.size) hlen).mono ?_; rintro e w2 ⟨rfl, hput⟩))
  go_end0
  rw [HD.out] at hput
  exact ⟨rfl, Put.ahead hB HB.out hput⟩

set_option maxHeartbeats 2000000 in
set_option maxRecDepth 100000 in
theorem literal_truth (B b : Nat) (l : List UInt8) (n : Int) (hn : n = 0 ∨ n = 1) (s : ByteArray) (w : World) (hp : Pr B b l w) (hB : B ≤ w.heap.size) (hlen : l.length + (if n = 1 then [84, 82, 85, 69] else [70, 65, 76, 83, 69] : List UInt8).length ≤ 140737488355328) :
    Calls Tryz.prog 130 #[.pointer (some ⟨b, 0, none⟩), .agg #[.int .i64 2, .int .i64 n, .string s]] w fun e w' => e = .returned (.tuple #[]) ∧ Put B b (l ++ if n = 1 then [84, 82, 85, 69] else [70, 65, 76, 83, 69]) w w' := by
  have HP := Lib.hid hp
  clear hp
  rcases hn with rfl | rfl
  · replace hlen : l.length + 5 ≤ 140737488355328 := hlen
    go_enter Tryz.func130, Tryz.ntmps130
    go_wp2_with (go_at_call 69; refine (put1 B b l ⟨#[70, 65, 76, 83, 69]⟩ _ _ (by simp) ((HP.out.alloc _).alloc _) (by simp; omega) hlen).mono ?_; rintro e w2 ⟨rfl, hput⟩)
    go_end0
    exact ⟨rfl, Put.ahead hB (below2 _ _ _) hput⟩
  · replace hlen : l.length + 4 ≤ 140737488355328 := hlen
    go_enter Tryz.func130, Tryz.ntmps130
    go_wp2_with (go_at_call 69; refine (put1 B b l ⟨#[84, 82, 85, 69]⟩ _ _ (by simp) ((HP.out.alloc _).alloc _) (by simp; omega) hlen).mono ?_; rintro e w2 ⟨rfl, hput⟩)
    go_end0
    exact ⟨rfl, Put.ahead hB (below2 _ _ _) hput⟩

set_option maxHeartbeats 2000000 in
set_option maxRecDepth 100000 in
theorem literal_text (B b : Nat) (l : List UInt8) (n : Int) (s : ByteArray) (hs : s.size ≤ 64) (w : World) (hp : Pr B b l w) (hB : B ≤ w.heap.size) (he : Env B w) (hlen : l.length + (39 :: (esc s.data.toList ++ [39])).length ≤ 140737488355328) :
    Calls Tryz.prog 130 #[.pointer (some ⟨b, 0, none⟩), .agg #[.int .i64 3, .int .i64 n, .string s]] w fun e w' => e = .returned (.tuple #[]) ∧ Put B b (l ++ 39 :: (esc s.data.toList ++ [39])) w w' := by
  have HP := Lib.hid hp
  have HI := Lib.hid fun w' (hb : Below w.heap.size w w') => replace_any s hs B w' (he.step hB hb)
  clear hp he
  have hD : (⟨(esc s.data.toList).toArray⟩ : ByteArray).data.toList = esc s.data.toList := rfl
  have hz := mk_size (esc s.data.toList)
  generalize (⟨(esc s.data.toList).toArray⟩ : ByteArray) = D at HI hD hz
  have hl2 : Hid (l.length + ((⟨#[39]⟩ : ByteArray).size + (D.size + (⟨#[39]⟩ : ByteArray).size)) ≤ 140737488355328) := Lib.hid (by
    simp only [List.length_cons, List.length_append, List.length_nil] at hlen
    have h1 : (⟨#[39]⟩ : ByteArray).size = 1 := rfl
    rw [h1, hz]; omega)
  have HD := Lib.hid hD
  clear hD hz hlen
  go_enter Tryz.func130, Tryz.ntmps130
  go_wp2_with (first | (go_at_call 162; refine (HI.out _ (below2 _ _ _)).mono ?_; rintro e w1 ⟨rfl, hb⟩; have HB := Lib.hid (below_of2 hb); clear hb) | (go_at_call 69; refine (put3 B b l ⟨#[39]⟩ D ⟨#[39]⟩ _ _ rfl (HP.out.below HB.out) (Nat.le_trans hB HB.out.size) hl2.out).mono ?_; rintro e w2 ⟨rfl, hput⟩))
  go_end0
  rw [HD.out] at hput
  exact ⟨rfl, Put.ahead hB HB.out hput⟩

theorem literal_any (v : Vl) (h : litB v.k v.n v.s = true) (B b : Nat) (l : List UInt8) (w : World) (hp : Pr B b l w) (hB : B ≤ w.heap.size) (he : Env B w) (hlen : l.length + (litL v).length ≤ 140737488355328) :
    Calls Tryz.prog 130 #[.pointer (some ⟨b, 0, none⟩), v.val] w fun e w' => e = .returned (.tuple #[]) ∧ Put B b (l ++ litL v) w w' := by
  rcases lit_cases h with h0 | ⟨h0, h1⟩ | ⟨h0, h1⟩ | ⟨h0, h1⟩
  · rw [litL_at0 h0] at hlen ⊢
    clear h
    obtain ⟨k, n, s, hv⟩ := v
    unfold Vl.val
    dsimp only at h0 ⊢
    subst h0
    exact literal_null B b l n s w hp hB hlen
  · rw [litL_at1 h0] at hlen ⊢
    clear h
    obtain ⟨k, n, s, hv⟩ := v
    unfold Vl.val
    dsimp only at h0 h1 hlen ⊢
    subst h0
    obtain ⟨m, rfl⟩ := Int.eq_ofNat_of_zero_le h1
    rw [Int.toNat_natCast] at hlen ⊢
    exact literal_num B b l m (by omega) s w hp hB he hlen
  · rw [litL_at2 h0] at hlen ⊢
    clear h
    obtain ⟨k, n, s, hv⟩ := v
    unfold Vl.val
    dsimp only at h0 h1 hlen ⊢
    subst h0
    exact literal_truth B b l n h1 s w hp hB hlen
  · rw [litL_at3 h0] at hlen ⊢
    clear h
    obtain ⟨k, n, s, hv⟩ := v
    unfold Vl.val
    dsimp only at h0 h1 hlen ⊢
    subst h0
    exact literal_text B b l n s h1 w hp hB he hlen

set_option maxHeartbeats 2000000 in
set_option maxRecDepth 100000 in
theorem column_bare {α : Type} (x : ExN α) (a : Option Addr) (c B b : Nat) (l : List UInt8) (w : World) (ht : emp x.t = true) (hp : Pr B b l w) (hB : B ≤ w.heap.size) (hlen : l.length + x.m.size ≤ 140737488355328) :
    Calls Tryz.prog 131 #[.pointer (some ⟨b, 0, none⟩), x.val a c] w fun e w' => e = .returned (.tuple #[]) ∧ Put B b (l ++ x.m.data.toList) w w' := by
  obtain ⟨op, ⟨k, n, s, hv⟩, t, m, ls⟩ := x
  unfold ExN.val
  dsimp only at ht hlen ⊢
  have ht2 : t.toList.isEmpty = true := ht
  have ht3 : t.toList = [] := by simpa using ht2
  have HP := Lib.hid hp
  clear hp ht ht2
  go_enter Tryz.func131, Tryz.ntmps131
  go_wp2_with (go_at_call 69; refine (put1 B b l m _ _ (by simp) (HP.out.alloc _) (by simp; omega) hlen).mono ?_; rintro e w2 ⟨rfl, hput⟩)
  go_end0
  exact ⟨rfl, Put.ahead hB (below1 _ _) hput⟩

set_option maxHeartbeats 2000000 in
set_option maxRecDepth 100000 in
theorem column_of {α : Type} (x : ExN α) (a : Option Addr) (c B b : Nat) (l : List UInt8) (w : World) (ht : emp x.t = false) (hp : Pr B b l w) (hB : B ≤ w.heap.size) (hlen : l.length + (x.t.size + 1 + x.m.size) ≤ 140737488355328) :
    Calls Tryz.prog 131 #[.pointer (some ⟨b, 0, none⟩), x.val a c] w fun e w' => e = .returned (.tuple #[]) ∧ Put B b (l ++ (x.t.data.toList ++ 46 :: x.m.data.toList)) w w' := by
  obtain ⟨op, ⟨k, n, s, hv⟩, t, m, ls⟩ := x
  unfold ExN.val
  dsimp only at ht hlen ⊢
  have ht2 : t.toList.isEmpty = false := ht
  have ht3 : ¬ t.toList = [] := by simpa using ht2
  have HP := Lib.hid hp
  have hbl := hp.lt
  clear hp ht
  go_enter Tryz.func131, Tryz.ntmps131
  go_upto_region 3 with (go_at_call 69; refine (put2 B b l t ⟨#[46]⟩ _ _ (by simp) (HP.out.alloc _) (by simp; omega) (by have h1 : (⟨#[46]⟩ : ByteArray).size = 1 := rfl; omega)).mono ?_; rintro e w2 ⟨rfl, hput⟩; obtain ⟨x0, x1, x2, x3, x4, x5, x6⟩ := cells7 (hput.keeps (heap_alloc_new w _) (by decide) (by omega)))
  have HU := Lib.hid (Put.ahead hB (below1 _ _) hput)
  clear hput
  go_wp2_with (go_at_call 69; refine (put1 B b (l ++ (t.data.toList ++ [46])) m _ _ rfl HU.out.1 (Nat.le_trans hB HU.out.size) (by simp only [List.length_append, bsz, List.length_cons, List.length_nil]; omega)).mono ?_; rintro e w3 ⟨rfl, hput⟩)
  go_end0
  have h := HU.out.trans hput
  exact ⟨rfl, by simpa using h⟩

theorem column_any {α : Type} (x : ExN α) (a : Option Addr) (c B b : Nat) (l : List UInt8) (w : World) (hp : Pr B b l w) (hB : B ≤ w.heap.size) (hlen : l.length + (colL x.t x.m).length ≤ 140737488355328) :
    Calls Tryz.prog 131 #[.pointer (some ⟨b, 0, none⟩), x.val a c] w fun e w' => e = .returned (.tuple #[]) ∧ Put B b (l ++ colL x.t x.m) w w' := by
  unfold colL at hlen ⊢
  cases ht : emp x.t
  · rw [ht] at hlen
    rw [if_neg (by simp)] at hlen ⊢
    exact column_of x a c B b l w ht hp hB (by simp only [List.length_append, List.length_cons, bsz] at hlen; omega)
  · rw [ht] at hlen
    rw [if_pos rfl] at hlen ⊢
    exact column_bare x a c B b l w ht hp hB (by rw [bsz] at hlen; exact hlen)
end Go.Proofs.YtnbgnofbeklmkaaGreatDoor
