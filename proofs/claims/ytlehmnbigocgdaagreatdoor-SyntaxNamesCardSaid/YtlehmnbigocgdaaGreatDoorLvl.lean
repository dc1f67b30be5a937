/- What Lex makes of any text: the walk. Conditions: strconv.ErrRange holds an error; a text's length as every machine keeps it. -/
import Derived.Test.YtlehmnbigocgdaaGreatDoorLvk
namespace Go.Proofs.YtlehmnbigocgdaaGreatDoor.Lx
open Go.RowKit
set_option linter.unusedSimpArgs false
set_option linter.unusedVariables false

theorem Tryz.infoTk : (Tryz.prog.info? 47).map (fun i => (i.zero, i.size, i.bytes)) = some (some (.agg #[.int .i64 0, .string ⟨#[]⟩, .int .i64 0, .int .i64 0]), 4, 40) := by kernel_rfl

def tokV (t : Tok) : List Value := [.int .i64 t.k, .string ⟨t.t.toArray⟩, .int .i64 t.n, .int .i64 t.at_]
/-- Tokens as cells. -/
def toks (l : List Tok) : List Value := (l.map tokV).flatten
theorem toks_snoc (l : List Tok) (t : Tok) : toks (l ++ [t]) = toks l ++ tokV t := by simp [toks]
theorem toks_length (l : List Tok) : (toks l).length = l.length * 4 := by
  induction l with
  | nil => rfl
  | cons t r ih =>
    have : toks (t :: r) = tokV t ++ toks r := by simp [toks]
    rw [this, List.length_append, ih]; simp [tokV]; omega

theorem cells_new (w : World) (l : List Value) (t : TypeId) : ∀ j u, l[j]? = some u → (w.alloc (.cells l.toArray t)).cell? ((⟨w.heap.size, 0, none⟩ : Addr).add j) = some u := by
  intro j u hj
  have e : (⟨w.heap.size, 0, none⟩ : Addr).add j = ⟨w.heap.size, j, none⟩ := by unfold Addr.add; split <;> simp_all
  rw [e, World.cell?_alloc_mark w l.toArray t (0, 0) j]
  simpa using hj
structure St (w wr : World) (s : ByteArray) (acc : List Tok) (i : Nat) (v : Value) : Prop where
  rdr : Rdr wr w.heap.size s i
  own : wr.ownsRow (w.heap.size + 1) 47 4 v acc.length (toks acc)
  bel : Below w.heap.size w wr
  size : w.heap.size + 1 ≤ wr.heap.size
theorem St.start (w : World) (s : ByteArray) : St w (w.alloc (.cells #[.string s, .int .i64 0] 89)) s [] 0 (.slice none 0 0) :=
  ⟨heap_alloc_new w _, World.ownsRow_nil _ _ _ _, (Below.refl _ _).alloc (Nat.le_refl _) _, by simp⟩
theorem St.ran {w wr : World} {s : ByteArray} {acc : List Tok} {i : Nat} {v : Value} (h : St w wr s acc i v) (hr : Ran w) : Ran wr := by
  have hl := hr.lt
  obtain ⟨te, pe, hr⟩ := hr
  exact ⟨te, pe, by rw [World.cell?_of_block (h.bel.block 2 hl)]; exact hr⟩
/-- Behind a call that writes the reader's block alone. -/
theorem St.read {w wr w' : World} {s : ByteArray} {acc : List Tok} {j i : Nat} {v : Value} (h : St w wr s acc j v) (hg : wr.grownBy w' (some w.heap.size)) (hr : Rdr w' w.heap.size s i) : St w w' s acc i v :=
  ⟨hr, h.own.kept hg (.inr fun e => by have := (h.own.lt _ e).1; omega), h.bel.grown hg (by have := h.size; omega) (fun k hk => by simp at hk; omega), Nat.le_trans h.size hg.size⟩
theorem St.new {w wr : World} {s : ByteArray} {acc : List Tok} {j : Nat} {v : Value} (h : St w wr s acc j v) (o : Obj) : St w (wr.alloc o) s acc j v :=
  have hg := World.grownBy_alloc wr o none
  ⟨h.rdr.grown hg (by simp), h.own.alloc o, h.bel.alloc (by have := h.size; omega) o, by have := h.size; simp; omega⟩
/-- Behind an append to the list. -/
theorem St.put {w wr w' : World} {s : ByteArray} {acc acc' : List Tok} {j n : Nat} {v v' : Value} {xs : List Value} (h : St w wr s acc j v) (hn : n = acc'.length) (hx : xs = toks acc') (ho : w'.ownsRow (w.heap.size + 1) 47 4 v' n xs) (hg : wr.grownBy w' v.ownBlock) : St w w' s acc' j v' := by
  subst hn
  subst hx
  have n0 : v.ownBlock ≠ some w.heap.size := fun e => by have := (h.own.lt _ e).1; omega
  exact ⟨h.rdr.grown hg n0, ho, h.bel.grown hg (by have := h.size; omega) (fun k hk => by have := (h.own.lt k hk).1; omega), Nat.le_trans h.size hg.size⟩
/-- A list's value: its length. -/
theorem own_form {w : World} {base n : Nat} {e : TypeId} {sz : Nat} {v : Value} {xs : List Value} (h : w.ownsRow base e sz v n xs) : ∃ A c, v = .slice A n c := by
  rcases h.2 with ⟨rfl, rfl⟩ | ⟨g, cap, cur, rfl, _⟩
  · exact ⟨_, _, rfl⟩
  · exact ⟨_, _, rfl⟩

/-- What Lex answers. -/
def LexPost (R : LexR) (s : ByteArray) (w : World) (e : Ending) (w' : World) : Prop :=
  match R with
  | .ok l => (∃ v, e = .returned (.tuple #[v, .int .i64 s.size, .int .i64 0]) ∧ w'.ownsRow w.heap.size 47 4 v l.length (toks l)) ∧ Below w.heap.size w w'
  | .err a x => e = .returned (.tuple #[.slice none 0 0, .int .i64 a, .int .i64 x]) ∧ Below w.heap.size w w'
theorem LexPost.no {R : LexR} {a x : Nat} (h : R = .err a x) {s : ByteArray} {w w' : World} {a' x' : Int} (ha : a' = a) (hx : x' = x) (hb : Below w.heap.size w w') : LexPost R s w (.returned (.tuple #[.slice none 0 0, .int .i64 a', .int .i64 x'])) w' := by
  subst h ha hx; exact ⟨rfl, hb⟩
theorem LexPost.yes {R : LexR} {l : List Tok} (h : R = .ok l) {s : ByteArray} {w w' : World} {v : Value} (ho : w'.ownsRow w.heap.size 47 4 v l.length (toks l)) (hb : Below w.heap.size w w') : LexPost R s w (.returned (.tuple #[v, .int .i64 s.size, .int .i64 0])) w' := by
  subst h; exact ⟨⟨v, rfl, ho⟩, hb⟩

theorem ownsRow_mono {w : World} {B B' n : Nat} {e : TypeId} {sz : Nat} {v : Value} {xs : List Value} (h : w.ownsRow B e sz v n xs) (hle : B' ≤ B) : w.ownsRow B' e sz v n xs := by
  refine ⟨h.1, ?_⟩
  rcases h.2 with h | ⟨g, cap, cur, h1, h2, h3⟩
  · exact .inl h
  · exact .inr ⟨g, cap, cur, h1, Nat.le_trans hle h2, h3⟩

theorem lex_none {f : Nat} {acc : List Tok} {a : Nat} {r : List UInt8} (hf : 0 < f) (hr : 0 < r.length) (h : tokL r = none) : lexF f acc a r = .err a 91 := by
  obtain ⟨f', rfl⟩ : ∃ f', f = f' + 1 := ⟨f - 1, by omega⟩
  rw [lexF, if_neg (by intro e; subst e; simp at hr), h]
theorem lex_full {f : Nat} {acc : List Tok} {a : Nat} {r : List UInt8} {k n : Nat} {t r' : List UInt8} (hf : 0 < f) (hr : 0 < r.length) (h : tokL r = some (k, t, n, r')) (ha : acc.length = 400) : lexF f acc a r = .err a 3 := by
  obtain ⟨f', rfl⟩ : ∃ f', f = f' + 1 := ⟨f - 1, by omega⟩
  rw [lexF, if_neg (by intro e; subst e; simp at hr), h]
  exact if_pos ha
theorem lex_one {f : Nat} {acc : List Tok} {a : Nat} {r : List UInt8} {k n : Nat} {t r' : List UInt8} (hf : 0 < f) (hr : 0 < r.length) (h : tokL r = some (k, t, n, r')) (ha : ¬ acc.length = 400) :
    lexF f acc a r = lexF (f - 1) (acc ++ [⟨k, t, n, a⟩]) (a + (r.length - (skipL r').length)) (skipL r') := by
  obtain ⟨f', rfl⟩ : ∃ f', f = f' + 1 := ⟨f - 1, by omega⟩
  rw [lexF, if_neg (by intro e; subst e; simp at hr), h]
  exact if_neg ha
theorem lex_nil (f : Nat) (acc : List Tok) (a : Nat) : lexF f acc a [] = .ok acc := by cases f <;> simp [lexF]

set_option maxRecDepth 100000 in
set_option maxHeartbeats 8000000 in
theorem lex_any (s : ByteArray) (w : World) (hs : s.size ≤ 140737488355328) (hr : Ran w) :
    Calls Tryz.prog 19 #[.string s] w (LexPost (lexL s.data.toList) s w) := by
  obtain ⟨i0, hi, hz0, hz1, hz2⟩ := info_parts Tryz.infoTk
  have hs' : s.size ≤ 9223372036854775807 := by omega
  have hmax : s.size ≤ maxLen := by unfold maxLen; omega
  have HM := Lib.hid hmax
  have HS := Lib.hid hs
  have HRan := Lib.hid hr
  have h2 := hr.lt
  have hll : s.data.toList.length = s.size := by simp
  have hR0 : lexL s.data.toList = if s.size > 2048 then .err 0 5 else lexF s.size [] (s.size - (skipL (rest s 0)).length) (skipL (rest s 0)) := by
    unfold lexL; rw [hll]; rfl
  generalize lexL s.data.toList = R at hR0
  clear hmax hs hr hll
  by_cases hbig : s.size > 2048
  · rw [if_pos hbig] at hR0
    have HR0 := Lib.hid hR0
    clear hR0
    go_enter Tryz.func19, Tryz.ntmps19
    go_wp2_with fail
    go_ret3
    exact LexPost.no HR0.out rfl rfl (Below.refl _ _)
  · rw [if_neg hbig] at hR0
    have HR0 := Lib.hid hR0
    clear hR0
    have hsk := skip_any w.heap.size s 0 _ (St.start w s).rdr (Nat.zero_le _) HM.out
    go_enter Tryz.func19, Tryz.ntmps19
    go_wp2_with fail
    go_at_call 51
    refine hsk.mono ?_
    rintro e w1 ⟨rfl, ⟨i, _, hi1, hri, hRd⟩, hG⟩
    have HS1 := Lib.hid ((St.start w s).read hG hRd)
    have HR1 : Hid (R = lexF s.size [] i (rest s i)) := by
      show _ = _
      have e : s.size - (skipL (rest s 0)).length = i := by rw [← hri, rest_length]; omega
      rw [HR0.out, e, ← hri]
    have HI1 := Lib.hid hi1
    clear hi1 hri hRd hG hsk HR0
    go_wp2_with fail
    go_loopg [5, 7, 8, 9] (s.size - i) (fun k v5 _ _ _ wr => ∃ (acc : List Tok) (j f : Nat) (v : Value), v5 = v ∧ k = s.size - j ∧ j ≤ s.size ∧ acc.length ≤ 400 ∧ s.size - j ≤ f ∧ R = lexF f acc j (rest s j) ∧ St w wr s acc j v)
    case atStart => exact ⟨[], i, s.size, _, rfl, rfl, HI1.out, by simp, by omega, HR1.out, HS1.out⟩
    case round =>
    clear HS1 HR1 HI1
    obtain ⟨acc, j, f, v, rfl, hk, hj, ha, hf, hT, hS⟩ := hrel
    obtain ⟨A, cp, rfl⟩ := own_form hS.own
    have HT := Lib.hid hT
    have HS1 := Lib.hid hS
    have HK := Lib.hid hk
    have HF := Lib.hid hf
    obtain ⟨r0, r1, _⟩ := hS.rdr.cells
    clear hT hS hk hf
    rcases Nat.lt_or_ge j s.size with hlt | hge
    · have hv := token_any w.heap.size s j wr HS1.out.rdr hlt HS.out (HS1.out.ran HRan.out) h2
      have hrl : 0 < (rest s j).length := by rw [rest_length]; omega
      cases hc : tokL (rest s j) with
      | none =>
        rw [hc] at hv
        have hv' : Calls Tryz.prog 52 #[.pointer (some ⟨w.heap.size, 0, none⟩)] wr fun e w' => (∃ (a : Int) (b : ByteArray) (c d : Int), e = .returned (.tuple #[.agg #[.int .i64 a, .string b, .int .i64 c, .int .i64 d], .bool false])) ∧ wr.grownBy w' (some w.heap.size) := hv
        have HC : Hid (R = .err j 91) := HT.out.trans (lex_none (by have := HF.out; omega) hrl hc)
        clear hv hc hrl
        go_wp2_with (go_at_call 52; refine hv'.mono ?_; rintro e w2 ⟨⟨a, b, c, d, rfl⟩, hG⟩)
        go_ret3
        have hB : Below w.heap.size w _ := HS1.out.bel.grown hG (by have := HS1.out.size; omega) (fun k hk => by simp at hk; omega)
        exact LexPost.no HC.out rfl rfl (hB.alloc (by have := hB.size; omega) _)
      | some x =>
        obtain ⟨k, t, n, r'⟩ := x
        rw [hc] at hv
        have hv' : Calls Tryz.prog 52 #[.pointer (some ⟨w.heap.size, 0, none⟩)] wr fun e w' => e = .returned (.tuple #[.agg #[.int .i64 k, .string ⟨t.toArray⟩, .int .i64 n, .int .i64 j], .bool true]) ∧ (∃ i, i ≤ s.size ∧ rest s i = r' ∧ Rdr w' w.heap.size s i) ∧ wr.grownBy w' (some w.heap.size) := hv
        by_cases hfull : acc.length = 400
        · have HC : Hid (R = .err j 3) := HT.out.trans (lex_full (by have := HF.out; omega) hrl hc hfull)
          have hlen : ((acc.length : Int) == 400) = true := by simp; omega
          clear hv hc hrl hfull
          go_wp2_with (go_at_call 52; refine hv'.mono ?_; rintro e w2 ⟨rfl, ⟨i2, hi2, hr2, hR2⟩, hG⟩)
          go_ret3
          have hB : Below w.heap.size w _ := HS1.out.bel.grown hG (by have := HS1.out.size; omega) (fun k hk => by simp at hk; omega)
          exact LexPost.no HC.out rfl rfl (hB.alloc (by have := hB.size; omega) _)
        · have hlen : ((acc.length : Int) == 400) = false := by simp; omega
          have HC : Hid (R = lexF (f - 1) (acc ++ [⟨k, t, n, j⟩]) (j + ((rest s j).length - (skipL r').length)) (skipL r')) := HT.out.trans (lex_one (by have := HF.out; omega) hrl hc hfull)
          have HTL := Lib.hid (tokL_len hc)
          have hacc : acc.length < 400 := by omega
          clear hv hc hrl hfull
          go_wp2_with (first | (go_at_call 52; refine hv'.mono ?_; rintro e w2 ⟨rfl, ⟨i2, hi2, hr2, hR2⟩, hG⟩; have S2 := Lib.hid (HS1.out.read hG hR2); have HI2 := Lib.hid hi2; have HR2 := Lib.hid hr2; clear hR2 hG hi2 hr2) | (at_builtin; refine wpList_append_own_at _ rfl (.tmp 35) (.tmp 37) 43 rfl (w.heap.size + 1) 47 i0 (.agg #[.int .i64 0, .string ⟨#[]⟩, .int .i64 0, .int .i64 0]) 4 40 Tryz.underlying43 hi hz0 hz1 hz2 rfl (by decide) _ acc.length (toks acc) rfl ((S2.out.own.alloc _).alloc _) ⟨w2.heap.size + 1, 0, none⟩ 1 1 [.int .i64 k, .string ⟨t.toArray⟩, .int .i64 n, .int .i64 j] rfl rfl ?c1 ?c2 ?c3 ?c4 ?c5 ?_))
          case c1 => exact fun j1 u hj1 => by simpa using cells_new (w2.alloc (.cells #[.int .i64 k, .string ⟨t.toArray⟩, .int .i64 n, .int .i64 j] 47)) [.int .i64 k, .string ⟨t.toArray⟩, .int .i64 n, .int .i64 j] 47 j1 u hj1
          case c2 => intro u hu; simp at hu; rcases hu with rfl | rfl | rfl | rfl <;> rfl
          case c3 => unfold maxLen; omega
          case c4 => omega
          case c5 => have := S2.out.size; simp; omega
          intro v3 w3 hown3 hg3 _ _
          have hS3 := ((S2.out.new (.cells #[.int .i64 k, .string ⟨t.toArray⟩, .int .i64 n, .int .i64 j] 47)).new (.cells #[.int .i64 k, .string ⟨t.toArray⟩, .int .i64 n, .int .i64 j] 47)).put (acc' := acc ++ [⟨k, t, n, j⟩]) (by simp) (by rw [toks_snoc]; rfl) hown3 hg3
          obtain ⟨A3, cp3, rfl⟩ := own_form hS3.own
          have S3 := Lib.hid hS3
          have hlen3 : (acc ++ [(⟨k, t, n, j⟩ : Tok)]).length = acc.length + 1 := by simp
          have hsk := skip_any w.heap.size s i2 w3 S3.out.rdr HI2.out HM.out
          clear hS3 hown3 hg3
          go_wp2_with fail
          go_at_call 51
          refine hsk.mono ?_
          rintro e w4 ⟨rfl, ⟨i4, hle4, hi4, hr4, hR4⟩, hG4⟩
          have S4 := Lib.hid (S3.out.read hG4 hR4)
          have HI4 := Lib.hid hi4
          have HR4 := Lib.hid hr4
          have HLE4 := Lib.hid hle4
          clear hle4 hi4 hr4 hR4 hG4 hsk
          have hlt4 : j < i4 := by
            have h1 := HTL.out
            rw [← HR2.out, rest_length, rest_length] at h1
            have h3 := HLE4.out
            have h4 := HI2.out
            omega
          have HN : Hid (R = lexF (f - 1) (acc ++ [⟨k, t, n, j⟩]) i4 (rest s i4)) := by
            have h1 := HC.out
            rw [← HR2.out, ← HR4.out, rest_length, rest_length] at h1
            have e : j + ((s.size - j) - (s.size - i4)) = i4 := by have := HI4.out; omega
            rw [e] at h1
            exact h1
          have HLT4 := Lib.hid hlt4
          clear hlt4
          go_wp2_with fail
          go_roundg (s.size - i4)
          case measure => have h1 := HLT4.out; have h2 := HI4.out; rw [HK.out]; omega
          case rel => exact ⟨acc ++ [⟨k, t, n, j⟩], i4, f - 1, _, rfl, rfl, HI4.out, by rw [hlen3]; omega, by have h1 := HLT4.out; have h3 := HF.out; omega, HN.out, by have h4 := S4.out; rw [hlen3] at h4; exact h4⟩
    · obtain rfl : j = s.size := by omega
      have HC : Hid (R = .ok acc) := by show _ = _; rw [HT.out, rest_end s s.size (Nat.le_refl _), lex_nil]
      go_wp2_with fail
      go_ret3
      exact LexPost.yes HC.out (ownsRow_mono HS1.out.own (by omega)) HS1.out.bel
end Go.Proofs.YtlehmnbigocgdaaGreatDoor.Lx
