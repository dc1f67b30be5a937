/- SyntaxNames answers true: the walk. Conditions: a text of a length that every machine keeps; the variables that the library reads, as they are laid. -/
import Derived.Test.YtlehmnbigocgdaaGreatDoorNa
import Derived.Test.YtlehmnbigocgdaaGreatDoorUk
namespace Go.Proofs.YtlehmnbigocgdaaGreatDoor
open Go.RowKit
set_option linter.unusedSimpArgs false
set_option linter.unusedVariables false

/-- How the lexer's answer and the text stand to each other. -/
inductive NameCase (s : ByteArray) : Prop where
  | err (a x : Nat) (h : Lx.lexL s.data.toList = .err a x) (hx : x ≠ 0) (hn : nameB s = false)
  | many (l : List Lx.Tok) (h : Lx.lexL s.data.toList = .ok l) (hl : l.length ≠ 1) (hn : nameB s = false)
  | kind (t : Lx.Tok) (h : Lx.lexL s.data.toList = .ok [t]) (hk : t.k ≠ 1) (hn : nameB s = false)
  | text (t : Lx.Tok) (h : Lx.lexL s.data.toList = .ok [t]) (hk : t.k = 1) (ht : t.t ≠ s.data.toList) (hn : nameB s = false)
  | word (t : Lx.Tok) (h : Lx.lexL s.data.toList = .ok [t]) (hk : t.k = 1) (ht : t.t = s.data.toList) (hn : nameB s = !kwB (lowS s))
theorem nameCase (s : ByteArray) : NameCase s := by
  have hno : ∀ {P : Prop}, (P → False) → (nameB s = true → P) → nameB s = false := fun h1 h2 => by
    cases hb : nameB s
    · rfl
    · exact (h1 (h2 hb)).elim
  cases h : Lx.lexL s.data.toList with
  | err a x => exact .err a x h (lexL_err h) (hno (P := OneWord s) (fun ⟨t, h', _⟩ => by rw [h] at h'; cases h') fun hb => (word_of_name hb).1)
  | ok l =>
    by_cases hl : l.length = 1
    · obtain ⟨t, rfl⟩ := len1 hl
      by_cases hk : t.k = 1
      · by_cases ht : t.t = s.data.toList
        · refine .word t h hk ht ?_
          cases hkw : kwB (lowS s)
          · exact name_of_word ⟨t, h, hk, ht⟩ hkw
          · exact hno (P := kwB (lowS s) = false) (fun h' => by rw [hkw] at h'; cases h') fun hb => (word_of_name hb).2
        · exact .text t h hk ht (hno (P := OneWord s) (fun ⟨t', h', _, ht'⟩ => by rw [h] at h'; injection h' with h'; injection h' with h' _; subst h'; exact ht ht') fun hb => (word_of_name hb).1)
      · exact .kind t h hk (hno (P := OneWord s) (fun ⟨t', h', hk', _⟩ => by rw [h] at h'; injection h' with h'; injection h' with h' _; subst h'; exact hk hk') fun hb => (word_of_name hb).1)
    · exact .many l h hl (hno (P := OneWord s) (fun ⟨t', h', _, _⟩ => by rw [h] at h'; injection h' with h'; subst h'; exact hl rfl) fun hb => (word_of_name hb).1)

theorem own_slice {w : World} {base n : Nat} {e : TypeId} {sz : Nat} {v : Value} {xs : List Value} (h : w.ownsRow base e sz v n xs) : ∃ A c, v = .slice A n c := by
  rcases h.2 with ⟨rfl, h0⟩ | ⟨g, cap, cur, hv, _⟩
  · exact ⟨none, 0, by rw [h0]⟩
  · exact ⟨_, cap, hv⟩
theorem own_one {w : World} {base : Nat} {e : TypeId} {v : Value} {a0 a1 a2 a3 : Value} (h : w.ownsRow base e 4 v 1 [a0, a1, a2, a3]) : ∃ g c, v = .slice (some ⟨g, 0, none⟩) 1 c ∧ w.cell? ⟨g, 0, none⟩ = some a0 ∧ w.cell? ⟨g, 1, none⟩ = some a1 := by
  rcases h.2 with ⟨_, h0⟩ | ⟨g, cap, cur, hv, _⟩
  · cases h0
  · refine ⟨g, cap, hv, ?_, ?_⟩
    · exact h.cells (g := g) (by rw [hv]; rfl) 0 _ rfl
    · exact h.cells (g := g) (by rw [hv]; rfl) 1 _ rfl

set_option maxHeartbeats 4000000 in
set_option maxRecDepth 100000 in
theorem names_walk (s : ByteArray) (hs : s.size ≤ 140737488355328) (w : World) (hran : Lx.Ran w) (he : Env w.heap.size w) :
    Calls Tryz.prog 6 #[.string s] w fun e w' => e = .returned (.bool true) ∧ Below w.heap.size w w' := by
  have HA := Lib.hid (alive_any w.heap.size w he (Nat.le_refl _))
  have HL := Lib.hid fun (w' : World) (hr : Lx.Ran w') => Lx.lex_any s w' hs hr
  have HK := Lib.hid fun (w' : World) => keyword_any s w' hs
  have HN := Lib.hid fun (w' : World) => sName_any s w'
  have HP := Lib.hid fun (w' : World) (hb : Below w.heap.size w w') => sPrintExpr_any (xN s) none 0 w' (RdK_nil _ _ _) ((he.below hb).mono hb.size)
  have hM := fun n w => wnum_any n w
  have HR : Hid (∀ w', Below w.heap.size w w' → Lx.Ran w') := Lib.hid fun w' hb => by
    obtain ⟨te, pe, h⟩ := hran
    exact ⟨te, pe, cell_keep h hb⟩
  clear hran he
  go_enter Tryz.func6, Tryz.ntmps6
  go_upto_region 3 with (go_at_call 16; refine HA.out.mono ?_; rintro e w1 ⟨rfl, hb⟩)
  have HB := Lib.hid hb
  clear hb HA
  rcases nameCase s with ⟨a, x, hl, hx, hn⟩ | ⟨l, hl, hlen, hn⟩ | ⟨t, hl, hk, hn⟩ | ⟨t, hl, hk, ht, hn⟩ | ⟨t, hl, hk, ht, hn⟩
  · have hx2 : ((x : Int) == 0) = false := by simp; omega
    have hx3 : (x == 0) = false := by simp; omega
    rw [hl] at HL
    unfold Lx.LexPost at HL
    dsimp only at HL
    have HPn : Hid (∀ w', Below w.heap.size w w' → Calls Tryz.prog 21 #[.agg #[.int .i64 1, .int .i64 0, .int .i64 0, .string ⟨#[]⟩, .string ⟨#[]⟩, .string s, .slice none 0 0]] w' fun e w'' => e = .returned (.tuple #[.string ⟨#[]⟩, .int .i64 9]) ∧ Below w'.heap.size w' w'') := Lib.hid fun w' hb => by
      have h1 := HP.out w' hb
      have h2 := chkN_no hn
      rw [txX_no (by rw [h2]; decide), h2] at h1
      exact h1
    rw [hn] at HN
    clear HP hn
    go_upto_region 4 with (go_at_call 19; refine (HL.out _ (HR.out _ HB.out)).mono ?_; rintro e w2 ⟨rfl, hb⟩; have HB2 := Lib.hid (below_call hb HB.out HB.out.size); clear hb)
    go_wp2_with (first | (go_at_call 21; refine (HPn.out _ HB2.out).mono ?_; rintro e w3 ⟨rfl, hb⟩; have HB3 := Lib.hid (below_call hb HB2.out HB2.out.size); clear hb) | (go_at_call 13; refine (HN.out _).mono ?_; rintro e w4 ⟨rfl, hb⟩; have HB4 := Lib.hid (below_call hb HB3.out HB3.out.size); clear hb) | (go_at_call 10; refine (hM _ _).mono ?_; rintro e w5 ⟨rfl, rfl⟩))
    go_ret
    exact ⟨rfl, HB4.out⟩
  · have hx2 : ((l.length : Int) == 1) = false := by simp; omega
    have hx3 : (l.length == 1) = false := by simp; omega
    rw [hl] at HL
    unfold Lx.LexPost at HL
    dsimp only at HL
    have HPn : Hid (∀ w', Below w.heap.size w w' → Calls Tryz.prog 21 #[.agg #[.int .i64 1, .int .i64 0, .int .i64 0, .string ⟨#[]⟩, .string ⟨#[]⟩, .string s, .slice none 0 0]] w' fun e w'' => e = .returned (.tuple #[.string ⟨#[]⟩, .int .i64 9]) ∧ Below w'.heap.size w' w'') := Lib.hid fun w' hb => by
      have h1 := HP.out w' hb
      have h2 := chkN_no hn
      rw [txX_no (by rw [h2]; decide), h2] at h1
      exact h1
    rw [hn] at HN
    clear HP hn
    go_upto_region 4 with (go_at_call 19; refine (HL.out _ (HR.out _ HB.out)).mono ?_; rintro e w2 ⟨⟨v, rfl, hown⟩, hb⟩; have HB2 := Lib.hid (below_call hb HB.out HB.out.size); clear hb)
    obtain ⟨A, c, rfl⟩ := own_slice hown
    clear hown
    go_wp2_with (first | (go_at_call 21; refine (HPn.out _ HB2.out).mono ?_; rintro e w3 ⟨rfl, hb⟩; have HB3 := Lib.hid (below_call hb HB2.out HB2.out.size); clear hb) | (go_at_call 13; refine (HN.out _).mono ?_; rintro e w4 ⟨rfl, hb⟩; have HB4 := Lib.hid (below_call hb HB3.out HB3.out.size); clear hb) | (go_at_call 10; refine (hM _ _).mono ?_; rintro e w5 ⟨rfl, rfl⟩))
    go_ret
    exact ⟨rfl, HB4.out⟩
  · have hx2 : ((t.k : Int) == 1) = false := by simp; omega
    have hx3 : (t.k == 1) = false := by simp; omega
    rw [hl] at HL
    unfold Lx.LexPost at HL
    dsimp only at HL
    have HPn : Hid (∀ w', Below w.heap.size w w' → Calls Tryz.prog 21 #[.agg #[.int .i64 1, .int .i64 0, .int .i64 0, .string ⟨#[]⟩, .string ⟨#[]⟩, .string s, .slice none 0 0]] w' fun e w'' => e = .returned (.tuple #[.string ⟨#[]⟩, .int .i64 9]) ∧ Below w'.heap.size w' w'') := Lib.hid fun w' hb => by
      have h1 := HP.out w' hb
      have h2 := chkN_no hn
      rw [txX_no (by rw [h2]; decide), h2] at h1
      exact h1
    rw [hn] at HN
    clear HP hn
    go_upto_region 4 with (go_at_call 19; refine (HL.out _ (HR.out _ HB.out)).mono ?_; rintro e w2 ⟨⟨v, rfl, hown⟩, hb⟩; have HB2 := Lib.hid (below_call hb HB.out HB.out.size); clear hb)
    obtain ⟨g, c, rfl, c0, c1⟩ := own_one hown
    clear hown
    go_wp2_with (first | (go_at_call 21; refine (HPn.out _ HB2.out).mono ?_; rintro e w3 ⟨rfl, hb⟩; have HB3 := Lib.hid (below_call hb HB2.out HB2.out.size); clear hb) | (go_at_call 13; refine (HN.out _).mono ?_; rintro e w4 ⟨rfl, hb⟩; have HB4 := Lib.hid (below_call hb HB3.out HB3.out.size); clear hb) | (go_at_call 10; refine (hM _ _).mono ?_; rintro e w5 ⟨rfl, rfl⟩))
    go_ret
    exact ⟨rfl, HB4.out⟩
  · have hx2 : ((t.k : Int) == 1) = true := by simp [hk]
    have hx3 : ((⟨t.t.toArray⟩ : ByteArray).toList == s.toList) = false := by
      simp only [beq_eq_false_iff_ne, ne_eq, ByteArray.toList_eq]
      exact ht
    rw [hl] at HL
    unfold Lx.LexPost at HL
    dsimp only [Lx.toks, Lx.tokV, List.flatMap_cons, List.flatMap_nil] at HL
    have HPn : Hid (∀ w', Below w.heap.size w w' → Calls Tryz.prog 21 #[.agg #[.int .i64 1, .int .i64 0, .int .i64 0, .string ⟨#[]⟩, .string ⟨#[]⟩, .string s, .slice none 0 0]] w' fun e w'' => e = .returned (.tuple #[.string ⟨#[]⟩, .int .i64 9]) ∧ Below w'.heap.size w' w'') := Lib.hid fun w' hb => by
      have h1 := HP.out w' hb
      have h2 := chkN_no hn
      rw [txX_no (by rw [h2]; decide), h2] at h1
      exact h1
    rw [hn] at HN
    clear HP hn
    go_upto_region 4 with (go_at_call 19; refine (HL.out _ (HR.out _ HB.out)).mono ?_; rintro e w2 ⟨⟨v, rfl, hown⟩, hb⟩; have HB2 := Lib.hid (below_call hb HB.out HB.out.size); clear hb)
    obtain ⟨g, c, rfl, c0, c1⟩ := own_one hown
    clear hown
    generalize (⟨t.t.toArray⟩ : ByteArray) = T at *
    go_wp2_with (first | (go_at_call 21; refine (HPn.out _ HB2.out).mono ?_; rintro e w3 ⟨rfl, hb⟩; have HB3 := Lib.hid (below_call hb HB2.out HB2.out.size); clear hb) | (go_at_call 13; refine (HN.out _).mono ?_; rintro e w4 ⟨rfl, hb⟩; have HB4 := Lib.hid (below_call hb HB3.out HB3.out.size); clear hb) | (go_at_call 10; refine (hM _ _).mono ?_; rintro e w5 ⟨rfl, rfl⟩))
    go_ret
    exact ⟨rfl, HB4.out⟩
  · have hx2 : ((t.k : Int) == 1) = true := by simp [hk]
    have hx3 : (⟨t.t.toArray⟩ : ByteArray) = s := ba_ext ht
    rw [hl] at HL
    unfold Lx.LexPost at HL
    have htk : Lx.toks [t] = [.int .i64 t.k, .string ⟨t.t.toArray⟩, .int .i64 t.n, .int .i64 t.at_] := by simp [Lx.toks, Lx.tokV]
    rw [hx3] at htk
    simp only [htk, List.length_singleton] at HL
    have hss : (s.toList == s.toList) = true := by simp
    clear hx3
    cases hkw : kwB (lowS s)
    · rw [hkw] at hn HK
      have hn : nameB s = true := hn
      obtain ⟨h1, h2⟩ := chkN_yes hn
      rw [h1, h2] at HP
      have HPn : Hid (∀ w', Below w.heap.size w w' → Calls Tryz.prog 21 #[.agg #[.int .i64 1, .int .i64 0, .int .i64 0, .string ⟨#[]⟩, .string ⟨#[]⟩, .string s, .slice none 0 0]] w' fun e w'' => e = .returned (.tuple #[.string s, .int .i64 0]) ∧ Below w'.heap.size w' w'') := Lib.hid HP.out
      rw [hn] at HN
      clear HP hn h1 h2 hkw
      go_upto_region 4 with (go_at_call 19; refine (HL.out _ (HR.out _ HB.out)).mono ?_; rintro e w2 ⟨⟨v, rfl, hown⟩, hb⟩; have HB2 := Lib.hid (below_call hb HB.out HB.out.size); clear hb)
      obtain ⟨g, c, rfl, c0, c1⟩ := own_one hown
      clear hown
      go_wp2_with (first | (go_at_call 20; refine (HK.out _).mono ?_; rintro e w6 ⟨rfl, hb⟩; replace HB2 := Lib.hid (below_call hb HB2.out HB2.out.size); clear hb) | (go_at_call 21; refine (HPn.out _ HB2.out).mono ?_; rintro e w3 ⟨rfl, hb⟩; have HB3 := Lib.hid (below_call hb HB2.out HB2.out.size); clear hb) | (go_at_call 13; refine (HN.out _).mono ?_; rintro e w4 ⟨rfl, hb⟩; have HB4 := Lib.hid (below_call hb HB3.out HB3.out.size); clear hb) | (go_at_call 10; refine (hM _ _).mono ?_; rintro e w5 ⟨rfl, rfl⟩))
      go_ret
      exact ⟨rfl, HB4.out⟩
    · rw [hkw] at hn HK
      have hn : nameB s = false := hn
      have HPn : Hid (∀ w', Below w.heap.size w w' → Calls Tryz.prog 21 #[.agg #[.int .i64 1, .int .i64 0, .int .i64 0, .string ⟨#[]⟩, .string ⟨#[]⟩, .string s, .slice none 0 0]] w' fun e w'' => e = .returned (.tuple #[.string ⟨#[]⟩, .int .i64 9]) ∧ Below w'.heap.size w' w'') := Lib.hid fun w' hb => by
        have h1 := HP.out w' hb
        have h2 := chkN_no hn
        rw [txX_no (by rw [h2]; decide), h2] at h1
        exact h1
      rw [hn] at HN
      clear HP hn hkw
      go_upto_region 4 with (go_at_call 19; refine (HL.out _ (HR.out _ HB.out)).mono ?_; rintro e w2 ⟨⟨v, rfl, hown⟩, hb⟩; have HB2 := Lib.hid (below_call hb HB.out HB.out.size); clear hb)
      obtain ⟨g, c, rfl, c0, c1⟩ := own_one hown
      clear hown
      go_wp2_with (first | (go_at_call 20; refine (HK.out _).mono ?_; rintro e w6 ⟨rfl, hb⟩; replace HB2 := Lib.hid (below_call hb HB2.out HB2.out.size); clear hb) | (go_at_call 21; refine (HPn.out _ HB2.out).mono ?_; rintro e w3 ⟨rfl, hb⟩; have HB3 := Lib.hid (below_call hb HB2.out HB2.out.size); clear hb) | (go_at_call 13; refine (HN.out _).mono ?_; rintro e w4 ⟨rfl, hb⟩; have HB4 := Lib.hid (below_call hb HB3.out HB3.out.size); clear hb) | (go_at_call 10; refine (hM _ _).mono ?_; rintro e w5 ⟨rfl, rfl⟩))
      go_ret
      exact ⟨rfl, HB4.out⟩
end Go.Proofs.YtlehmnbigocgdaaGreatDoor
