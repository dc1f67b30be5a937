/- What appendText and appendValue make of a key: the walks. Conditions: values that may be, numbers of 64 bits. -/
import Derived.Test.YtapichngakcpeaaVd
namespace Go.Proofs.Ytapichngakcpeaa
open Go.RowKit
set_option linter.unusedSimpArgs false
set_option linter.unusedVariables false

theorem esc_append (a b : List UInt8) : esc (a ++ b) = esc a ++ esc b := by
  induction a with
  | nil => rfl
  | cons c a ih => simp [esc, ih]
theorem esc_len (a : List UInt8) : (esc a).length ≤ 2 * a.length := by
  induction a with
  | nil => simp [esc]
  | cons c a ih =>
    have : (esc1 c).length ≤ 2 := by unfold esc1; split <;> (try split) <;> simp
    simp [esc]; omega
theorem take_snoc (s : ByteArray) (j : Nat) (h : j < s.size) : s.data.toList.take (j + 1) = s.data.toList.take j ++ [s[j]] := by
  rw [List.take_succ_eq_append_getElem (by simpa using h)]; rfl
theorem esc_take (s : ByteArray) (j : Nat) (h : j < s.size) : esc (s.data.toList.take (j + 1)) = esc (s.data.toList.take j) ++ esc1 s[j] := by
  rw [take_snoc s j h, esc_append]; simp [esc]

theorem cells_new (w : World) (l : List Value) (t : TypeId) : ∀ j u, l[j]? = some u → (w.alloc (.cells l.toArray t)).cell? ((⟨w.heap.size, 0, none⟩ : Addr).add j) = some u := by
  intro j u hj
  have e : (⟨w.heap.size, 0, none⟩ : Addr).add j = ⟨w.heap.size, j, none⟩ := by unfold Addr.add; split <;> simp_all
  rw [e, World.cell?_alloc_mark w l.toArray t (0, 0) j]
  simpa using hj

set_option maxHeartbeats 2000000 in
theorem appendText_any (base : Nat) (v : Value) (l : List UInt8) (s : ByteArray) (w : World) (hs : s.size ≤ 64) (hl : l.length ≤ 50000) (hown : w.ownsRow base 5 1 v l.length (bys l)) (hb : base ≤ w.heap.size) :
    Calls Try.prog 25 #[v, .string s] w fun e w' => ∃ v', e = .returned v' ∧ Grew base w v w' v' (l ++ textK s.data.toList) := by
  obtain ⟨i0, hi, hz0, hz1, hz2⟩ := info_parts Try.info5
  have HOwn := Lib.hid hown
  clear hown
  go_enter Try.func25, Try.ntmps25
  go_wp2_with (at_builtin; refine wpList_append_own_at _ rfl (.tmp 6) (.tmp 7) 39 rfl base 5 i0 (.int .u8 0) 1 1 Try.underlying39 hi hz0 hz1 hz2 rfl (by decide) v l.length (bys l) rfl (HOwn.out.alloc _) ⟨w.heap.size, 0, none⟩ 1 1 [_] rfl rfl (cell_one_new _ _ _) ?c2 ?c3 ?c4 ?c5 ?_)
  case c2 => intro u hu; simp at hu; subst hu; rfl
  case c3 => unfold maxLen; omega
  case c4 => omega
  case c5 => simp; omega
  intro v1 w1 hown1 hg1 _ hat1
  have hG : Grew base w v w1 v1 (l ++ [96]) := Grew.step (by simp) (by simp [bys]) hown1 hg1 (by simpa using hat1)
  have HG := Lib.hid hG
  clear hown1 hg1 hat1 hG
  go_wp2_with fail
  go_loopw [0, 5, 11] (fun v2 i c wr => ∃ j : Nat, j ≤ s.size ∧ c = .int .i64 j ∧ Grew base w v wr v2 (l ++ 96 :: esc (s.data.toList.take j))) (fun _ _ c _ => s.size - (intOf c).toNat)
  case atStart => exact ⟨0, by omega, rfl, by simpa [esc] using HG.out⟩
  case round =>
  clear HG
  obtain ⟨j, hj, rfl, hG⟩ := hrel
  have HG := Lib.hid hG
  clear hG
  have hlen : (esc (s.data.toList.take j)).length ≤ 128 := by
    have h1 := esc_len (s.data.toList.take j)
    have h2 : (s.data.toList.take j).length ≤ j := List.length_take_le _ _
    omega
  by_cases hlt : j < s.size
  · have HE := Lib.hid (esc_take s j hlt)
    rcases (show (s[j] = 0 ∧ ((s[j].toNat : Int) == 0) = true) ∨ (s[j] = 1 ∧ ((s[j].toNat : Int) == 0) = false ∧ ((s[j].toNat : Int) == 1) = true) ∨ (esc1 s[j] = [s[j]] ∧ ((s[j].toNat : Int) == 0) = false ∧ ((s[j].toNat : Int) == 1) = false) from by
      generalize s[j] = b
      by_cases e0 : b = 0
      · exact .inl ⟨e0, by subst e0; rfl⟩
      · by_cases e1 : b = 1
        · exact .inr (.inl ⟨e1, by subst e1; decide⟩)
        · have a0 : b.toNat ≠ 0 := fun x => e0 (UInt8.toNat_inj.1 (by simpa using x))
          have a1 : b.toNat ≠ 1 := fun x => e1 (UInt8.toNat_inj.1 (by simpa using x))
          exact .inr (.inr ⟨by simp [esc1, e0, e1], by simp; omega, by simp; omega⟩)) with ⟨hb0, t0⟩ | ⟨hb0, t0, t1⟩ | ⟨hb0, t0, t1⟩
    all_goals have HB := Lib.hid hb0
    all_goals clear hb0
    · go_wp2_with (at_builtin; refine wpList_append_own_at _ rfl (.tmp 25) (.tmp 26) 39 rfl base 5 i0 (.int .u8 0) 1 1 Try.underlying39 hi hz0 hz1 hz2 rfl (by decide) u0 _ (bys (l ++ 96 :: esc (s.data.toList.take j))) rfl (HG.out.own.alloc _) ⟨wr.heap.size, 0, none⟩ 2 2 [_, _] rfl rfl (cells_new _ [_, _] _) ?c2 ?c3 ?c4 ?c5 ?_)
      case c2 => intro u hu; simp at hu; rcases hu with rfl | rfl <;> rfl
      case c3 => go_light; unfold maxLen; simp; omega
      case c4 => go_light; simp; omega
      case c5 => go_light; have := HG.out.grown.size; simp; omega
      intro v3 w3 hown3 hg3 _ hat3
      have hG3 := HG.out.trans (Grew.step (l := l ++ 96 :: esc (s.data.toList.take j)) (m := [1, 1]) (by simp) (by simp [bys]) hown3 hg3 (by simpa using hat3))
      have HG3 := Lib.hid hG3
      clear hown3 hg3 hat3 hG3 HG
      go_wp2
      go_roundw
      case rel => exact ⟨j + 1, by omega, by go_num, by rw [HE.out]; simpa [HB.out, esc1] using HG3.out⟩
      case measure => simp [intOf]; omega
    · go_wp2_with (at_builtin; refine wpList_append_own_at _ rfl (.tmp 30) (.tmp 31) 39 rfl base 5 i0 (.int .u8 0) 1 1 Try.underlying39 hi hz0 hz1 hz2 rfl (by decide) u0 _ (bys (l ++ 96 :: esc (s.data.toList.take j))) rfl (HG.out.own.alloc _) ⟨wr.heap.size, 0, none⟩ 2 2 [_, _] rfl rfl (cells_new _ [_, _] _) ?c2 ?c3 ?c4 ?c5 ?_)
      case c2 => intro u hu; simp at hu; rcases hu with rfl | rfl <;> rfl
      case c3 => go_light; unfold maxLen; simp; omega
      case c4 => go_light; simp; omega
      case c5 => go_light; have := HG.out.grown.size; simp; omega
      intro v3 w3 hown3 hg3 _ hat3
      have hG3 := HG.out.trans (Grew.step (l := l ++ 96 :: esc (s.data.toList.take j)) (m := [1, 2]) (by simp) (by simp [bys]) hown3 hg3 (by simpa using hat3))
      have HG3 := Lib.hid hG3
      clear hown3 hg3 hat3 hG3 HG
      go_wp2
      go_roundw
      case rel => exact ⟨j + 1, by omega, by go_num, by rw [HE.out]; simpa [HB.out, esc1] using HG3.out⟩
      case measure => simp [intOf]; omega
    · go_wp2_with (at_builtin; refine wpList_append_own_at _ rfl (.tmp 17) (.tmp 21) 39 rfl base 5 i0 (.int .u8 0) 1 1 Try.underlying39 hi hz0 hz1 hz2 rfl (by decide) u0 _ (bys (l ++ 96 :: esc (s.data.toList.take j))) rfl (HG.out.own.alloc _) ⟨wr.heap.size, 0, none⟩ 1 1 [_] rfl rfl (cell_one_new _ _ _) ?c2 ?c3 ?c4 ?c5 ?_)
      case c2 => intro u hu; simp at hu; subst hu; rfl
      case c3 => go_light; unfold maxLen; simp; omega
      case c4 => go_light; simp; omega
      case c5 => go_light; have := HG.out.grown.size; simp; omega
      intro v3 w3 hown3 hg3 _ hat3
      have hG3 := HG.out.trans (Grew.step (l := l ++ 96 :: esc (s.data.toList.take j)) (m := [s[j]]) (by simp) (by simp [bys]) hown3 hg3 (by simpa using hat3))
      have HG3 := Lib.hid hG3
      clear hown3 hg3 hat3 hG3 HG
      go_wp2
      go_roundw
      case rel => exact ⟨j + 1, by omega, by go_num, by rw [HE.out]; simpa [HB.out] using HG3.out⟩
      case measure => simp [intOf]; omega
  · have e : j = s.size := by omega
    have hT : s.data.toList.take j = s.data.toList := List.take_of_length_le (by simpa using (by omega : s.size ≤ j))
    have HT := Lib.hid hT
    clear hT e
    go_wp2_with (at_builtin; refine wpList_append_own_at _ rfl (.tmp 34) (.tmp 35) 39 rfl base 5 i0 (.int .u8 0) 1 1 Try.underlying39 hi hz0 hz1 hz2 rfl (by decide) u0 _ (bys (l ++ 96 :: esc (s.data.toList.take j))) rfl (HG.out.own.alloc _) ⟨wr.heap.size, 0, none⟩ 1 1 [_] rfl rfl (cell_one_new _ _ _) ?c2 ?c3 ?c4 ?c5 ?_)
    case c2 => intro u hu; simp at hu; subst hu; rfl
    case c3 => go_light; unfold maxLen; simp; omega
    case c4 => go_light; simp; omega
    case c5 => go_light; have := HG.out.grown.size; simp; omega
    intro v3 w3 hown3 hg3 _ hat3
    have hG3 := HG.out.trans (Grew.step (l := l ++ 96 :: esc (s.data.toList.take j)) (m := [0]) (by simp) (by simp [bys]) hown3 hg3 (by simpa using hat3))
    have HG3 := Lib.hid hG3
    clear hown3 hg3 hat3 hG3 HG
    go_wp2
    go_ret
    exact ⟨_, rfl, by have h := HG3.out; rw [HT.out] at h; simpa [textK] using h⟩

theorem Grew.left {base : Nat} {w w' : World} {o : Obj} {v v' : Value} {l' : List UInt8} (h : Grew base (w.alloc o) v w' v' l') : Grew base w v w' v' l' := by
  refine ⟨h.own, grownBy_trans (World.grownBy_alloc w o _) h.grown (.inl rfl), ?_⟩
  rcases h.lies with e | ⟨g, e, hg⟩
  · exact .inl e
  · exact .inr ⟨g, e, by simp at hg; omega⟩

set_option maxHeartbeats 2000000 in
theorem appendValue_any (base : Nat) (v : Value) (l : List UInt8) (x : Vl) (w : World) (hx : okV x) (hl : l.length ≤ 50000) (hown : w.ownsRow base 5 1 v l.length (bys l)) (hb : base ≤ w.heap.size) :
    Calls Try.prog 18 #[v, .agg #[.int .i64 x.k, .int .i64 x.n, .string x.s]] w fun e w' => ∃ v', e = .returned v' ∧ Grew base w v w' v' (l ++ enc1 x) := by
  obtain ⟨i0, hi, hz0, hz1, hz2⟩ := info_parts Try.info5
  obtain ⟨k, n, s⟩ := x
  obtain ⟨hm, hn⟩ := hx
  have HOwn := Lib.hid hown
  clear hown
  simp only at hm hn ⊢
  rcases mayB_kind hm with rfl | rfl | rfl | rfl
  · obtain ⟨rfl, rfl⟩ := mayB0 hm rfl
    clear hm hn
    go_enter Try.func18, Try.ntmps18
    go_wp2_with (at_builtin; refine wpList_append_own_at _ rfl (.tmp 28) (.tmp 29) 39 rfl base 5 i0 (.int .u8 0) 1 1 Try.underlying39 hi hz0 hz1 hz2 rfl (by decide) v l.length (bys l) rfl ((HOwn.out.alloc _).alloc _) ⟨w.heap.size + 1, 0, none⟩ 1 1 [_] rfl rfl (by simpa using cell_one_new (w.alloc (.cells #[.int .i64 0, .int .i64 0, .string ⟨#[]⟩] 36)) _ _) ?c2 ?c3 ?c4 ?c5 ?_)
    case c2 => intro u hu; simp at hu; subst hu; rfl
    case c3 => unfold maxLen; omega
    case c4 => omega
    case c5 => simp; omega
    intro v3 w3 hown3 hg3 _ hat3
    have hG : Grew base w v w3 v3 (l ++ [4]) := (Grew.step (by simp) (by simp [bys]) hown3 hg3 (by simpa using hat3)).left
    have HG := Lib.hid hG
    clear hown3 hg3 hat3 hG
    go_wp2
    go_ret
    exact ⟨_, rfl, HG.out⟩
  · obtain rfl := mayB1 hm rfl
    clear hm
    have HN := Lib.hid hn
    clear hn
    go_enter Try.func18, Try.ntmps18
    go_wp2_with (go_at_call 24; refine (appendNumber_any base _ l _ _ HN.out (by omega) (HOwn.out.alloc _) ?_).mono ?_; (simp; omega); rintro e w1 ⟨v1, rfl, hG⟩)
    have HG := Lib.hid hG
    clear hG
    go_ret
    exact ⟨_, rfl, HG.out.left⟩
  · obtain ⟨h01, rfl⟩ := mayB2 hm rfl
    clear hm hn
    have n0 : 0 ≤ n := by omega
    have n1 : n ≤ 1 := by omega
    clear h01
    go_enter Try.func18, Try.ntmps18
    go_wp2_with (at_builtin; refine wpList_append_own_at _ rfl (.tmp 15) (.tmp 20) 39 rfl base 5 i0 (.int .u8 0) 1 1 Try.underlying39 hi hz0 hz1 hz2 rfl (by decide) v l.length (bys l) rfl ((HOwn.out.alloc _).alloc _) ⟨w.heap.size + 1, 0, none⟩ 1 1 [_] rfl rfl (by simpa using cell_one_new (w.alloc (.cells #[.int .i64 2, .int .i64 n, .string ⟨#[]⟩] 36)) _ _) ?c2 ?c3 ?c4 ?c5 ?_)
    case c2 => intro u hu; simp at hu; subst hu; rfl
    case c3 => unfold maxLen; omega
    case c4 => omega
    case c5 => simp; omega
    intro v3 w3 hown3 hg3 _ hat3
    have hG : Grew base w v w3 v3 (l ++ [oct (80 + n)]) := (Grew.step (by simp) (by simp [bys, oct_toNat]; omega) hown3 hg3 (by simpa using hat3)).left
    have HG := Lib.hid hG
    clear hown3 hg3 hat3 hG
    go_wp2
    go_ret
    exact ⟨_, rfl, HG.out⟩
  · obtain ⟨rfl, hs⟩ := mayB3 hm rfl
    clear hm hn
    go_enter Try.func18, Try.ntmps18
    go_wp2_with (go_at_call 25; refine (appendText_any base _ l _ _ hs hl (HOwn.out.alloc _) ?_).mono ?_; (simp; omega); rintro e w1 ⟨v1, rfl, hG⟩)
    have HG := Lib.hid hG
    clear hG
    go_ret
    exact ⟨_, rfl, HG.out.left⟩

end Go.Proofs.Ytapichngakcpeaa
