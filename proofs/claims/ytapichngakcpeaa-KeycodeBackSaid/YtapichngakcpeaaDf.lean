/- What Decode makes of any text: the walk. Conditions: none. -/
import Derived.Test.YtapichngakcpeaaDe
namespace Go.Proofs.Ytapichngakcpeaa
open Go.RowKit
set_option linter.unusedSimpArgs false
set_option linter.unusedVariables false

/-- Block b holds one cell. -/
def One (w : World) (b : Nat) (t : TypeId) (v : Value) : Prop := w.heap[b]? = some (.cells #[v] t (0, 0))
theorem One.lt {w : World} {b : Nat} {t : TypeId} {v : Value} (h : One w b t v) : b < w.heap.size := by
  rcases Nat.lt_or_ge b w.heap.size with h' | h'
  · exact h'
  · unfold One at h; rw [Array.getElem?_eq_none h'] at h; cases h
theorem One.cells {w : World} {b : Nat} {t : TypeId} {v : Value} (h : One w b t v) : w.cell? ⟨b, 0, none⟩ = some v ∧ w.frozen? ⟨b, 0, none⟩ = false := by
  unfold One at h
  refine ⟨?_, ?_⟩ <;> simp [World.cell?, World.frozen?, h]
theorem One.grown {w w' : World} {b : Nat} {t : TypeId} {v : Value} {row : Option Nat} (h : One w b t v) (hg : w.grownBy w' row) (hne : row ≠ some b) : One w' b t v :=
  (hg.block b h.lt (fun e => hne e.symm)).trans h
theorem One.set {w : World} {b : Nat} {t : TypeId} {v : Value} (h : One w b t v) (u : Value) : One (w.setCell ⟨b, 0, none⟩ u) b t u := by
  have := heap_setCell_same w b 0 #[v] t u h
  unfold One
  rw [this]; rfl

/-- What stands in memory at each round of Decode: the list read so far, no error, the reader. -/
structure St (w wr : World) (s : ByteArray) (acc : List Vl) (j : Nat) (v : Value) : Prop where
  lst : One wr w.heap.size 22 v
  err : One wr (w.heap.size + 1) 24 (.int .i64 0)
  rdr : Rdr wr (w.heap.size + 1 + 1) s j
  own : wr.ownsRow (w.heap.size + 3) 36 3 v acc.length (vals acc)
  bel : Below w.heap.size w wr
  size : w.heap.size + 3 ≤ wr.heap.size
theorem St.start (w : World) (s : ByteArray) : St w (((w.alloc (.cells #[.slice none 0 0] 22)).alloc (.cells #[.int .i64 0] 24)).alloc (.cells #[.string s, .int .i64 0] 43)) s [] 0 (.slice none 0 0) := by
  refine ⟨?_, ?_, ?_, World.ownsRow_nil _ _ _ _, (((Below.refl _ _).alloc (Nat.le_refl _) _).alloc (by simp) _).alloc (by simp; omega) _, by simp⟩
  · have h : One (w.alloc (.cells #[.slice none 0 0] 22)) w.heap.size 22 (.slice none 0 0) := heap_alloc_new w _
    exact (h.grown (World.grownBy_alloc _ _ none) (by simp)).grown (World.grownBy_alloc _ _ none) (by simp)
  · have h : One ((w.alloc (.cells #[.slice none 0 0] 22)).alloc (.cells #[.int .i64 0] 24)) (w.heap.size + 1) 24 (.int .i64 0) := by
      have := heap_alloc_new (w.alloc (.cells #[.slice none 0 0] 22)) (.cells #[.int .i64 0] 24)
      rw [World.size_alloc] at this
      exact this
    exact h.grown (World.grownBy_alloc _ _ none) (by simp)
  · have := heap_alloc_new ((w.alloc (.cells #[.slice none 0 0] 22)).alloc (.cells #[.int .i64 0] 24)) (.cells #[.string s, .int .i64 0] 43)
    rw [World.size_alloc, World.size_alloc] at this
    exact this
/-- Behind a call that writes the reader's block alone. -/
theorem St.read {w wr w' : World} {s : ByteArray} {acc : List Vl} {j i : Nat} {v : Value} (h : St w wr s acc j v) (hg : wr.grownBy w' (some (w.heap.size + 1 + 1))) (hr : Rdr w' (w.heap.size + 1 + 1) s i) : St w w' s acc i v :=
  ⟨h.lst.grown hg (by simp; omega), h.err.grown hg (by simp), hr, h.own.kept hg (.inr fun e => by have := (h.own.lt _ e).1; omega), h.bel.grown hg (by have := h.size; omega) (fun k hk => by simp at hk; omega), Nat.le_trans h.size hg.size⟩
theorem St.new {w wr : World} {s : ByteArray} {acc : List Vl} {j : Nat} {v : Value} (h : St w wr s acc j v) (o : Obj) : St w (wr.alloc o) s acc j v :=
  have hg := World.grownBy_alloc wr o none
  ⟨h.lst.grown hg (by simp), h.err.grown hg (by simp), h.rdr.grown hg (by simp), h.own.alloc o, h.bel.alloc (by have := h.size; omega) o, by have := h.size; simp; omega⟩
/-- Behind an append to the list, and the store of the new one. -/
theorem St.put {w wr w' : World} {s : ByteArray} {acc acc' : List Vl} {j n : Nat} {v v' : Value} {xs : List Value} (h : St w wr s acc j v) (hn : n = acc'.length) (hx : xs = vals acc') (ho : w'.ownsRow (w.heap.size + 3) 36 3 v' n xs) (hg : wr.grownBy w' v.ownBlock) :
    One w' w.heap.size 22 v ∧ St w (w'.setCell ⟨w.heap.size, 0, none⟩ v') s acc' j v' := by
  subst hn
  subst hx
  have n0 : v.ownBlock ≠ some w.heap.size := fun e => by have := (h.own.lt _ e).1; omega
  have n1 : v.ownBlock ≠ some (w.heap.size + 1) := fun e => by have := (h.own.lt _ e).1; omega
  have n2 : v.ownBlock ≠ some (w.heap.size + 1 + 1) := fun e => by have := (h.own.lt _ e).1; omega
  have h0 := h.lst.grown hg n0
  have hs := grownBy_setCell w' w.heap.size 0 v'
  refine ⟨h0, h0.set v', (h.err.grown hg n1).grown hs (by simp), (h.rdr.grown hg n2).grown hs (by simp; omega), ?_, ?_, ?_⟩
  · exact ho.kept hs (.inr fun e => by have := (ho.lt _ e).1; omega)
  · exact (h.bel.grown hg (by have := h.size; omega) (fun k hk => by have := (h.own.lt k hk).1; omega)).setCell (Nat.le_refl _) _
  · have := h.size; have := hg.size; simp [World.setCell]; omega

/-- What Decode answers: a list of the call's own, or no list and an error's number. -/
def DecPost (R : Except Int (List Vl)) (w : World) (e : Ending) (w' : World) : Prop :=
  match R with
  | .ok l => (∃ v, e = .returned (.tuple #[v, .int .i64 0]) ∧ w'.ownsRow (w.heap.size + 3) 36 3 v l.length (vals l)) ∧ Below w.heap.size w w'
  | .error x => e = .returned (.tuple #[.slice none 0 0, .int .i64 x]) ∧ Below w.heap.size w w'

theorem lst_err {f : Nat} {acc : List Vl} {r : List UInt8} {x : Int} (hf : r.length ≤ f) (hr : 0 < r.length) (h : valD r = .error x) : lstD f acc r = .error x := by
  obtain ⟨f', rfl⟩ : ∃ f', f = f' + 1 := ⟨f - 1, by omega⟩
  cases r with
  | nil => simp at hr
  | cons c r => rw [lstD, h]
theorem lst_ok {f : Nat} {acc : List Vl} {r r' : List UInt8} {v : Vl} (hr : 0 < r.length) (h : valD r = .ok (v, r')) : lstD (f + 1) acc r = lstD f (capp acc v) r' := by
  cases r with
  | nil => simp at hr
  | cons c r => rw [lstD, h]
theorem lst_nil (f : Nat) (acc : List Vl) : lstD f acc [] = fin acc := by rw [lstD]
theorem DecPost.err {R : Except Int (List Vl)} {x : Int} (h : R = .error x) {w w' : World} (hb : Below w.heap.size w w') : DecPost R w (.returned (.tuple #[.slice none 0 0, .int .i64 x])) w' := by
  subst h; exact ⟨rfl, hb⟩
theorem DecPost.val {R : Except Int (List Vl)} {l : List Vl} (h : R = .ok l) {w w' : World} {v : Value} (ho : w'.ownsRow (w.heap.size + 3) 36 3 v l.length (vals l)) (hb : Below w.heap.size w w') : DecPost R w (.returned (.tuple #[v, .int .i64 0])) w' := by
  subst h; exact ⟨⟨v, rfl, ho⟩, hb⟩
theorem drop_len (s : ByteArray) (j : Nat) : (s.data.toList.drop j).length = s.size - j := by rw [List.length_drop]; simp
theorem St.form {w wr : World} {s : ByteArray} {acc : List Vl} {j : Nat} {v : Value} (h : St w wr s acc j v) : ∃ A c, v = .slice A acc.length c := by
  obtain ⟨A, c, e, _⟩ := RdL_own h.own
  exact ⟨A, c, e⟩
/-- The door behind a panic: the list is none, the error's number is the panic's. -/
theorem St.dies {w w1 : World} {s : ByteArray} {acc : List Vl} {j : Nat} {v : Value} (h : St w w1 s acc j v) (x : Int) : Below w.heap.size w ((w1.setCell ⟨w.heap.size, 0, none⟩ (.slice none 0 0)).setCell ⟨w.heap.size + 1, 0, none⟩ (.int .i64 x)).drew :=
  ((h.bel.setCell (Nat.le_refl _) _).setCell (by simp) _).drew
theorem St.ends {w w1 : World} {s : ByteArray} {acc : List Vl} {j : Nat} {v : Value} (h : St w w1 s acc j v) : Below w.heap.size w ((w1.setCell ⟨w.heap.size, 0, none⟩ v).setCell ⟨w.heap.size + 1, 0, none⟩ (.int .i64 0)) ∧ ((w1.setCell ⟨w.heap.size, 0, none⟩ v).setCell ⟨w.heap.size + 1, 0, none⟩ (.int .i64 0)).ownsRow (w.heap.size + 3) 36 3 v acc.length (vals acc) := by
  refine ⟨(h.bel.setCell (Nat.le_refl _) _).setCell (by simp) _, ?_⟩
  have h1 := h.own.kept (grownBy_setCell w1 w.heap.size 0 v) (.inr fun e => by have := (h.own.lt _ e).1; omega)
  exact h1.kept (grownBy_setCell _ (w.heap.size + 1) 0 (.int .i64 0)) (.inr fun e => by have := (h.own.lt _ e).1; omega)

set_option maxHeartbeats 8000000 in
set_option maxRecDepth 100000 in
theorem decode_any (s : ByteArray) (w : World) (hs : s.size ≤ maxLen) :
    Calls Try.prog 12 #[.string s] w (DecPost (decD s.data.toList) w) := by
  obtain ⟨i0, hi, hz0, hz1, hz2⟩ := info_parts Try.info36
  have hmf : ∀ (fn : Fn) (first cap : Array Value) (w : World), (Instr.makeFunc fn first cap).run Try.prog w = .ok (.func fn first cap) w := fun _ _ _ _ => rfl
  have HS := Lib.hid hs
  have hs' : s.size ≤ 9223372036854775807 := by unfold maxLen at hs; omega
  clear hs
  have hR0 : decD s.data.toList = lstD s.size [] (s.data.toList.drop 0) := by
    unfold decD
    rw [List.drop_zero]
    have : s.data.toList.length = s.size := by simp
    rw [this]
  generalize decD s.data.toList = R at hR0
  have HR0 := Lib.hid hR0
  clear hR0
  go_enter_defers Try.func12, Try.ntmps12
  go_wp2_with fail
  go_loopg [5] s.size (fun k v5 wr => ∃ (acc : List Vl) (j f : Nat) (v : Value), k = s.size - j ∧ j ≤ s.size ∧ acc.length ≤ 65 ∧ s.size - j ≤ f ∧ R = lstD f acc (s.data.toList.drop j) ∧ St w wr s acc j v)
  case atStart => exact ⟨[], 0, s.size, _, by omega, by omega, by simp, by omega, HR0.out, St.start w s⟩
  case round =>
    obtain ⟨acc, j, f, v, hk, hj, ha, hf, hT, hS⟩ := hrel
    obtain ⟨A, cp, rfl⟩ := hS.form
    have HT := Lib.hid hT
    have HS1 := Lib.hid hS
    have HK := Lib.hid hk
    have HF := Lib.hid hf
    obtain ⟨r0, r1, _⟩ := hS.rdr.cells
    clear hT hS hk hf
    by_cases hlt : j < s.size
    · have hv := value_any (w.heap.size + 1 + 1) s j wr HS1.out.rdr hlt HS.out
      cases hc : valD (s.data.toList.drop j) with
      | error x =>
        rw [hc] at hv
        have hv' : Calls Try.prog 20 #[.pointer (some ⟨w.heap.size + 1 + 1, 0, none⟩)] wr fun e w' => e = .panicked [{ v := .iface 24 (.int .i64 x), recovered := false }] ∧ wr.grownBy w' (some (w.heap.size + 1 + 1)) := hv
        have HC : Hid (R = .error x) := HT.out.trans (lst_err (by rw [drop_len]; exact HF.out) (by rw [drop_len]; omega) hc)
        clear hv hc
        go_wp2_with (go_at_call 20; refine hv'.mono ?_; rintro e w1 ⟨rfl, hG⟩)
        have o1 := HS1.out.lst.grown hG (by simp; omega)
        have o2 := HS1.out.err.grown hG (by simp)
        have hB : Below w.heap.size w w1 := HS1.out.bel.grown hG (by have := HS1.out.size; omega) (fun k hk => by simp at hk; omega)
        obtain ⟨p0, q0⟩ := o1.cells
        obtain ⟨p1, q1⟩ := o2.cells
        refine leaves_cons (f := 19) (args := #[.pointer (some ⟨w.heap.size, 0, none⟩), .pointer (some ⟨w.heap.size + 1, 0, none⟩)]) (by simp) (by simp [go_sem]) ?_
        refine (catch_dies w.heap.size x [] w1 _ 0 p0 q0 p1 q1).mono ?_
        rintro e u' w'' ⟨rfl, rfl, rfl⟩
        simp [Leaves, settle, results, Try.results12, go_sem, p0, p1]
        exact DecPost.err HC.out ((hB.setCell (Nat.le_refl _) _).setCell (by simp) _).drew
      | ok p =>
        obtain ⟨v0, r'⟩ := p
        rw [hc] at hv
        have hv' : Calls Try.prog 20 #[.pointer (some ⟨w.heap.size + 1 + 1, 0, none⟩)] wr fun e w' => e = .returned (.agg #[.int .i64 v0.k, .int .i64 v0.n, .string v0.s]) ∧ (∃ j, r' = s.data.toList.drop j ∧ j ≤ s.size ∧ Rdr w' (w.heap.size + 1 + 1) s j) ∧ wr.grownBy w' (some (w.heap.size + 1 + 1)) := hv
        have HC : Hid (s.size - j = (enc1 v0).length + r'.length ∧ 0 < (enc1 v0).length ∧ R = lstD (f - 1) (capp acc v0) r') := by
          obtain ⟨h1, h2⟩ := valD_ok hc
          have h3 := congrArg List.length h1
          rw [drop_len, List.length_append] at h3
          refine ⟨h3, enc1_pos h2, ?_⟩
          have h4 := HF.out
          obtain ⟨f', rfl⟩ : ∃ f', f = f' + 1 := ⟨f - 1, by omega⟩
          exact HT.out.trans (lst_ok (by rw [drop_len]; omega) hc)
        clear hv hc
        by_cases hl : acc.length ≤ 64
        · have HA : Hid (capp acc v0 = acc ++ [v0]) := by show capp acc v0 = _; unfold capp; rw [if_pos hl]
          go_wp2_with (first | (go_at_call 20; refine hv'.mono ?_; rintro e w1 ⟨rfl, ⟨i, hr, hi', hRd⟩, hG⟩; have S2 := Lib.hid (HS1.out.read hG hRd); obtain ⟨l0, g0⟩ := S2.out.lst.cells; have hzw : w.heap.size < w1.heap.size := (by have := S2.out.size; omega); have HRr := Lib.hid hr; clear hr hRd hG) | (at_builtin; refine wpList_append_own_at _ rfl (.tmp 18) (.tmp 20) 22 rfl (w.heap.size + 3) 36 i0 (.agg #[.int .i64 0, .int .i64 0, .string ⟨#[]⟩]) 3 32 Try.underlying22 hi hz0 hz1 hz2 rfl (by decide) _ acc.length (vals acc) rfl ((S2.out.own.alloc _).alloc _) ⟨w1.heap.size + 1, 0, none⟩ 1 1 [.int .i64 v0.k, .int .i64 v0.n, .string v0.s] rfl rfl ?c1 ?c2 ?c3 ?c4 ?c5 ?_))
          case c1 => exact fun j1 u hj1 => by simpa using cells_new (w1.alloc (.cells #[.int .i64 v0.k, .int .i64 v0.n, .string v0.s] 36)) [.int .i64 v0.k, .int .i64 v0.n, .string v0.s] 36 j1 u hj1
          case c2 => intro u hu; simp at hu; rcases hu with rfl | rfl | rfl <;> rfl
          case c3 => unfold maxLen; omega
          case c4 => omega
          case c5 => have := S2.out.size; simp; omega
          intro v3 w3 hown3 hg3 _ _
          have S3 := ((S2.out.new (.cells #[.int .i64 v0.k, .int .i64 v0.n, .string v0.s] 36)).new (.cells #[.int .i64 v0.k, .int .i64 v0.n, .string v0.s] 36)).put (acc' := acc ++ [v0]) (by simp) (by simp [vals, valC]) hown3 hg3
          obtain ⟨A3, cp3, rfl⟩ := S3.2.form
          obtain ⟨l1, g1⟩ := S3.1.cells
          have S4' := S3.2
          have hlen : (acc ++ [v0]).length = acc.length + 1 := by simp
          rw [hlen] at S4'
          have S4 := Lib.hid S4'
          clear S4' hlen
          clear S3 hown3 hg3
          go_wp2
          go_roundg (s.size - i)
          case measure =>
            have h1 := HC.out
            have h2 := HK.out
            rw [HRr.out, drop_len] at h1
            go_light
            omega
          case rel =>
            refine ⟨acc ++ [v0], i, f - 1, _, rfl, hi', by simp; omega, ?_, by rw [HC.out.2.2, HA.out, HRr.out], S4.out⟩
            have h1 := HC.out
            have h2 := HF.out
            rw [HRr.out, drop_len] at h1
            omega
        · have HA : Hid (capp acc v0 = acc) := by show capp acc v0 = _; unfold capp; rw [if_neg hl]
          go_wp2_with (go_at_call 20; refine hv'.mono ?_; rintro e w1 ⟨rfl, ⟨i, hr, hi', hRd⟩, hG⟩; have S2 := Lib.hid (HS1.out.read hG hRd); obtain ⟨l0, g0⟩ := S2.out.lst.cells; have hzw : w.heap.size < w1.heap.size := (by have := S2.out.size; omega); have HRr := Lib.hid hr; clear hr hRd hG)
          go_roundg (s.size - i)
          case measure =>
            have h1 := HC.out
            have h2 := HK.out
            rw [HRr.out, drop_len] at h1
            go_light
            omega
          case rel =>
            refine ⟨acc, i, f - 1, _, rfl, hi', by omega, ?_, by rw [HC.out.2.2, HA.out, HRr.out], S2.out.new _⟩
            have h1 := HC.out
            have h2 := HF.out
            rw [HRr.out, drop_len] at h1
            omega
    · have HE : Hid (R = fin acc) := by
        show _ = _
        rw [HT.out, drop_end s j (by omega), lst_nil]
      obtain ⟨l0, g0⟩ := HS1.out.lst.cells
      obtain ⟨e0, g1⟩ := HS1.out.err.cells
      by_cases hl : acc.length ≤ 64
      · have HC : Hid (R = .ok acc) := by show _ = _; rw [HE.out]; unfold fin; rw [if_neg (by omega)]
        go_wp2
        refine leaves_cons (f := 19) (args := #[.pointer (some ⟨w.heap.size, 0, none⟩), .pointer (some ⟨w.heap.size + 1, 0, none⟩)]) (by simp) (by simp [go_sem]) ?_
        refine (catch_idle ⟨w.heap.size, 0, none⟩ ⟨w.heap.size + 1, 0, none⟩ _).mono ?_
        rintro e u' w'' ⟨rfl, rfl, rfl⟩
        simp [Leaves, settle, results, Try.results12, go_sem, l0, e0]
        have hE := HS1.out.ends
        exact DecPost.val HC.out hE.2 hE.1
      · have HC : Hid (R = .error 3) := by show _ = _; rw [HE.out]; unfold fin; rw [if_pos (by omega)]
        go_wp2
        refine leaves_cons (f := 19) (args := #[.pointer (some ⟨w.heap.size, 0, none⟩), .pointer (some ⟨w.heap.size + 1, 0, none⟩)]) (by simp) (by simp [go_sem]) ?_
        refine (catch_dies w.heap.size 3 [] wr _ 0 l0 g0 e0 g1).mono ?_
        rintro e u' w'' ⟨rfl, rfl, rfl⟩
        simp [Leaves, settle, results, Try.results12, go_sem, l0, e0]
        exact DecPost.err HC.out (HS1.out.dies 3)

end Go.Proofs.Ytapichngakcpeaa
