/- What the law asks of Gather: that it answers the two cases right. The walks of num and of alive. Conditions: none. -/
import Derived.Test.YtddeaiciochggaaRe
namespace Go.Proofs.Ytddeaiciochggaa
open Go.RowKit Go.Sort
set_option linter.unusedSimpArgs false
set_option linter.unusedVariables false

theorem num_any (e : Int) (w : World) : Calls Try.prog 18 #[.int .i64 e] w fun o w' => o = .returned (.int .i64 e) ∧ w = w' := by
  go_enter Try.func18, Try.ntmps18
  go_wp2
  go_ret
  exact ⟨rfl, rfl⟩
theorem row_new (W : World) (n : Int) (h : inR n = true) (g : Nat) (hg : g = W.heap.size) : RdL (W.alloc (.cells #[.int .i64 1, .int .i64 n, .string ⟨#[]⟩] 96)) (some ⟨g, 0, none⟩) [vN n h] := fun _ => ⟨_, rfl, fun j v hj => by
  match j, hj with
  | 0, hj =>
    simp at hj
    subst hj
    rw [Nat.zero_mul, add0]
    exact ⟨(cell_last _ _ _ _ _ hg).trans rfl, (cell_last _ _ _ _ _ hg).trans rfl, (cell_last _ _ _ _ _ hg).trans rfl⟩⟩
theorem rw_new {W : World} {g n : Nat} {r : List Vl} (h : RdL W (some ⟨g, 0, none⟩) r) (hn : n = r.length) (hs : r.length ≤ 1000) : Rw W (.slice (some ⟨g, 0, none⟩) n n) r := ⟨_, _, by rw [hn], h, (fun e => by cases e), by omega⟩
/-- The rows and the items that the law lays, as they are when Gather is called. -/
theorem law_lays (w1 : World) : RdR (((((w1.alloc (.cells #[.int .i64 1, .int .i64 2, .string ⟨#[]⟩] 96)).alloc (.cells #[.int .i64 1, .int .i64 1, .string ⟨#[]⟩] 96)).alloc (.cells #[.int .i64 1, .int .i64 2, .string ⟨#[]⟩] 96)).alloc (.cells #[.slice (some ⟨w1.heap.size, 0, none⟩) 1 1, .slice (some ⟨w1.heap.size + 1, 0, none⟩) 1 1, .slice (some ⟨w1.heap.size + 1 + 1, 0, none⟩) 1 1] 85)).alloc (.cells #[.int .i64 1, .int .i64 1, .int .i64 0, .string ⟨#[]⟩, .string ⟨#[]⟩, .string ⟨#[]⟩, .slice none 0 0, .int .i64 18, .int .i64 0, .int .i64 0, .string ⟨#[]⟩, .string ⟨#[]⟩, .string ⟨#[]⟩, .slice none 0 0] 98)) (some ⟨w1.heap.size + 1 + 1 + 1, 0, none⟩) [r2, r1, r2] ∧ ItC (((((w1.alloc (.cells #[.int .i64 1, .int .i64 2, .string ⟨#[]⟩] 96)).alloc (.cells #[.int .i64 1, .int .i64 1, .string ⟨#[]⟩] 96)).alloc (.cells #[.int .i64 1, .int .i64 2, .string ⟨#[]⟩] 96)).alloc (.cells #[.slice (some ⟨w1.heap.size, 0, none⟩) 1 1, .slice (some ⟨w1.heap.size + 1, 0, none⟩) 1 1, .slice (some ⟨w1.heap.size + 1 + 1, 0, none⟩) 1 1] 85)).alloc (.cells #[.int .i64 1, .int .i64 1, .int .i64 0, .string ⟨#[]⟩, .string ⟨#[]⟩, .string ⟨#[]⟩, .slice none 0 0, .int .i64 18, .int .i64 0, .int .i64 0, .string ⟨#[]⟩, .string ⟨#[]⟩, .string ⟨#[]⟩, .slice none 0 0] 98)) ⟨w1.heap.size + 1 + 1 + 1 + 1, 0, none⟩ (1, 1) ∧ ItC (((((w1.alloc (.cells #[.int .i64 1, .int .i64 2, .string ⟨#[]⟩] 96)).alloc (.cells #[.int .i64 1, .int .i64 1, .string ⟨#[]⟩] 96)).alloc (.cells #[.int .i64 1, .int .i64 2, .string ⟨#[]⟩] 96)).alloc (.cells #[.slice (some ⟨w1.heap.size, 0, none⟩) 1 1, .slice (some ⟨w1.heap.size + 1, 0, none⟩) 1 1, .slice (some ⟨w1.heap.size + 1 + 1, 0, none⟩) 1 1] 85)).alloc (.cells #[.int .i64 1, .int .i64 1, .int .i64 0, .string ⟨#[]⟩, .string ⟨#[]⟩, .string ⟨#[]⟩, .slice none 0 0, .int .i64 18, .int .i64 0, .int .i64 0, .string ⟨#[]⟩, .string ⟨#[]⟩, .string ⟨#[]⟩, .slice none 0 0] 98)) ⟨w1.heap.size + 1 + 1 + 1 + 1, 0 + 7, none⟩ (18, 0) ∧ Below w1.heap.size w1 (((((w1.alloc (.cells #[.int .i64 1, .int .i64 2, .string ⟨#[]⟩] 96)).alloc (.cells #[.int .i64 1, .int .i64 1, .string ⟨#[]⟩] 96)).alloc (.cells #[.int .i64 1, .int .i64 2, .string ⟨#[]⟩] 96)).alloc (.cells #[.slice (some ⟨w1.heap.size, 0, none⟩) 1 1, .slice (some ⟨w1.heap.size + 1, 0, none⟩) 1 1, .slice (some ⟨w1.heap.size + 1 + 1, 0, none⟩) 1 1] 85)).alloc (.cells #[.int .i64 1, .int .i64 1, .int .i64 0, .string ⟨#[]⟩, .string ⟨#[]⟩, .string ⟨#[]⟩, .slice none 0 0, .int .i64 18, .int .i64 0, .int .i64 0, .string ⟨#[]⟩, .string ⟨#[]⟩, .string ⟨#[]⟩, .slice none 0 0] 98)) := by
  have b1 := below1 w1 (.cells #[.int .i64 1, .int .i64 2, .string ⟨#[]⟩] 96)
  have h0 : RdL (w1.alloc (.cells #[.int .i64 1, .int .i64 2, .string ⟨#[]⟩] 96)) (some ⟨w1.heap.size, 0, none⟩) r2 := row_new w1 2 (by decide) _ rfl
  have h1 : RdL ((w1.alloc (.cells #[.int .i64 1, .int .i64 2, .string ⟨#[]⟩] 96)).alloc (.cells #[.int .i64 1, .int .i64 1, .string ⟨#[]⟩] 96)) (some ⟨w1.heap.size + 1, 0, none⟩) r1 := row_new (w1.alloc (.cells #[.int .i64 1, .int .i64 2, .string ⟨#[]⟩] 96)) 1 (by decide) _ (by simp)
  have h2 : RdL (((w1.alloc (.cells #[.int .i64 1, .int .i64 2, .string ⟨#[]⟩] 96)).alloc (.cells #[.int .i64 1, .int .i64 1, .string ⟨#[]⟩] 96)).alloc (.cells #[.int .i64 1, .int .i64 2, .string ⟨#[]⟩] 96)) (some ⟨w1.heap.size + 1 + 1, 0, none⟩) r2 := row_new ((w1.alloc (.cells #[.int .i64 1, .int .i64 2, .string ⟨#[]⟩] 96)).alloc (.cells #[.int .i64 1, .int .i64 1, .string ⟨#[]⟩] 96)) 2 (by decide) _ (by simp)
  have k0 := (h0.below (below1 _ (.cells #[.int .i64 1, .int .i64 1, .string ⟨#[]⟩] 96))).below (below1 _ (.cells #[.int .i64 1, .int .i64 2, .string ⟨#[]⟩] 96))
  have k1 := h1.below (below1 _ (.cells #[.int .i64 1, .int .i64 2, .string ⟨#[]⟩] 96))
  have hr : RdR ((((w1.alloc (.cells #[.int .i64 1, .int .i64 2, .string ⟨#[]⟩] 96)).alloc (.cells #[.int .i64 1, .int .i64 1, .string ⟨#[]⟩] 96)).alloc (.cells #[.int .i64 1, .int .i64 2, .string ⟨#[]⟩] 96)).alloc (.cells #[.slice (some ⟨w1.heap.size, 0, none⟩) 1 1, .slice (some ⟨w1.heap.size + 1, 0, none⟩) 1 1, .slice (some ⟨w1.heap.size + 1 + 1, 0, none⟩) 1 1] 85)) (some ⟨w1.heap.size + 1 + 1 + 1, 0, none⟩) [r2, r1, r2] := fun _ => ⟨_, rfl, fun j r hj => by
    match j, hj with
    | 0, hj => simp at hj; subst hj; exact ⟨_, (cell_last _ _ _ _ _ (by simp)).trans rfl, rw_new (k0.below (below1 _ _)) rfl (by decide)⟩
    | 1, hj => simp at hj; subst hj; exact ⟨_, (cell_last _ _ _ _ _ (by simp)).trans rfl, rw_new (k1.below (below1 _ _)) rfl (by decide)⟩
    | 2, hj => simp at hj; subst hj; exact ⟨_, (cell_last _ _ _ _ _ (by simp)).trans rfl, rw_new (h2.below (below1 _ _)) rfl (by decide)⟩⟩
  have hx : ∀ o u, (#[Value.int .i64 1, .int .i64 1, .int .i64 0, .string ⟨#[]⟩, .string ⟨#[]⟩, .string ⟨#[]⟩, .slice none 0 0, .int .i64 18, .int .i64 0, .int .i64 0, .string ⟨#[]⟩, .string ⟨#[]⟩, .string ⟨#[]⟩, .slice none 0 0] : Array Value)[o]? = some u → (((((w1.alloc (.cells #[.int .i64 1, .int .i64 2, .string ⟨#[]⟩] 96)).alloc (.cells #[.int .i64 1, .int .i64 1, .string ⟨#[]⟩] 96)).alloc (.cells #[.int .i64 1, .int .i64 2, .string ⟨#[]⟩] 96)).alloc (.cells #[.slice (some ⟨w1.heap.size, 0, none⟩) 1 1, .slice (some ⟨w1.heap.size + 1, 0, none⟩) 1 1, .slice (some ⟨w1.heap.size + 1 + 1, 0, none⟩) 1 1] 85)).alloc (.cells #[.int .i64 1, .int .i64 1, .int .i64 0, .string ⟨#[]⟩, .string ⟨#[]⟩, .string ⟨#[]⟩, .slice none 0 0, .int .i64 18, .int .i64 0, .int .i64 0, .string ⟨#[]⟩, .string ⟨#[]⟩, .string ⟨#[]⟩, .slice none 0 0] 98)).cell? ⟨w1.heap.size + 1 + 1 + 1 + 1, o, none⟩ = some u := fun o u h => (cell_last _ _ _ _ _ (by simp)).trans h
  exact ⟨hr.below (below1 _ _), ⟨hx _ _ rfl, hx _ _ rfl, hx _ _ rfl, hx _ _ rfl, hx _ _ rfl, hx _ _ rfl, hx _ _ rfl⟩, ⟨hx _ _ rfl, hx _ _ rfl, hx _ _ rfl, hx _ _ rfl, hx _ _ rfl, hx _ _ rfl, hx _ _ rfl⟩, (((b1.alloc (by simp) _).alloc (by simp; omega) _).alloc (by simp; omega) _).alloc (by simp; omega) _⟩
theorem own_form {w : World} {B n : Nat} {t : TypeId} {k : Nat} {u : Value} {xs : List Value} (h : w.ownsRow B t k u (n + 1) xs) : ∃ g cap, u = .slice (some ⟨g, 0, none⟩) (n + 1) cap := by
  rcases h.2 with ⟨h1, h0⟩ | ⟨g, cap, cur, h1, _⟩
  · cases h0
  · exact ⟨g, cap, h1⟩
theorem frsN {w : World} {B : Nat} {v : Value} {cs : List Value} (h : Frs w B v cs resN) : ∃ g c h d, v = .slice (some ⟨g, 0, none⟩) 1 c ∧ w.cell? ⟨g, 0, none⟩ = some (.slice (some ⟨h, 0, none⟩) 1 d) ∧ w.cell? ⟨h, 0, none⟩ = some (.int .i64 1) ∧ w.cell? ⟨h, 1, none⟩ = some (.int .i64 0) ∧ w.cell? ⟨h, 2, none⟩ = some (.string ⟨#[]⟩) := by
  obtain ⟨ho, hl, hr⟩ := h
  match cs, hl with
  | [u], _ =>
    obtain ⟨g, c, e⟩ := own_form (n := 0) ho
    subst e
    have hu : w.ownsRow B 96 3 u (0 + 1) (vals [vN 0 (by decide)]) := hr 0 u _ rfl rfl
    obtain ⟨h, d, e⟩ := own_form hu
    subst e
    obtain ⟨x0, x1, x2, _⟩ := OwnV.at_ (r := [vN 0 (by decide)]) (i := 0) hu (by decide)
    exact ⟨g, c, h, d, rfl, (World.ownsRow.cellAt ho 0 (by decide)).trans rfl, x0, x1, x2⟩
theorem frsT {w : World} {B : Nat} {v : Value} {cs : List Value} (h : Frs w B v cs resT) : ∃ g c h d, v = .slice (some ⟨g, 0, none⟩) 2 c ∧ w.cell? ⟨g, 1, none⟩ = some (.slice (some ⟨h, 0, none⟩) 2 d) ∧ w.cell? ⟨h, 4, none⟩ = some (.int .i64 2) := by
  obtain ⟨ho, hl, hr⟩ := h
  match cs, hl with
  | [y, u], _ =>
    obtain ⟨g, c, e⟩ := own_form (n := 1) ho
    subst e
    have hu : w.ownsRow B 96 3 u (1 + 1) (vals [vN 2 (by decide), vN 2 (by decide)]) := hr 1 u _ rfl rfl
    obtain ⟨h, d, e⟩ := own_form hu
    subst e
    obtain ⟨x0, x1, x2, _⟩ := OwnV.at_ (r := [vN 2 (by decide), vN 2 (by decide)]) (i := 1) hu (by decide)
    exact ⟨g, c, h, d, rfl, (World.ownsRow.cellAt ho 1 (by decide)).trans rfl, x1⟩
set_option maxHeartbeats 8000000 in
theorem alive_any (w : World) : Calls Try.prog 19 #[] w fun o w' => o = .returned (.bool true) ∧ Below w.heap.size w w' := by
  have hb0 := below1 w (.cells #[.int .i64 18, .int .i64 0, .int .i64 0, .string ⟨#[]⟩, .string ⟨#[]⟩, .string ⟨#[]⟩, .slice none 0 0] 98)
  have hi0 : ItC (w.alloc (.cells #[.int .i64 18, .int .i64 0, .int .i64 0, .string ⟨#[]⟩, .string ⟨#[]⟩, .string ⟨#[]⟩, .slice none 0 0] 98)) ⟨w.heap.size, 0, none⟩ (18, 0) :=
    ⟨(cell_last _ _ _ _ _ rfl).trans rfl, (cell_last _ _ _ _ _ rfl).trans rfl, (cell_last _ _ _ _ _ rfl).trans rfl, (cell_last _ _ _ _ _ rfl).trans rfl, (cell_last _ _ _ _ _ rfl).trans rfl, (cell_last _ _ _ _ _ rfl).trans rfl, (cell_last _ _ _ _ _ rfl).trans rfl⟩
  have HB0 := Lib.hid hb0
  have HG1 := Lib.hid (gather_nil ⟨w.heap.size, 0, none⟩ 1 _ hi0)
  have HN := Lib.hid fun e W => num_any e W
  have HL := Lib.hid fun W => law_lays W
  have w0 : IntKind.i64.wrap (0 + 0) = 0 := by rw [IntKind.wrap_i64]; omega
  clear hb0 hi0
  go_enter Try.func19, Try.ntmps19
  go_upto_region 2 with (go_at_call 43; (with_reducible refine HG1.out.mono ?_); rintro e w1 ⟨v, cs, rfl, hF, hb⟩; have HF := Lib.hid hF; have HB1 := Lib.hid (thn HB0.out hb); clear hF hb)
  go_upto_region 3 with (go_at_call 43; (with_reducible refine (gather_3 _ _ _ _ _ (HL.out w1).1 (HL.out w1).2.1 (HL.out w1).2.2.1).mono ?_); rintro e w2 ⟨v2, cs2, B2, rfl, hF2, hb⟩; have HF2 := Lib.hid hF2; have HF1 := Lib.hid (HF.out.below ((HL.out w1).2.2.2.trans (hb.mono (by simp; omega)))); have HB2 := Lib.hid (thn (thn HB1.out (HL.out w1).2.2.2) hb); clear hF2 hb)
  obtain ⟨g, c, h, d, rfl, x0, x1, x2, x3⟩ := frsN HF1.out
  obtain ⟨g', c', h', d', rfl, y0, y1⟩ := frsT HF2.out
  have q0 := cell_lt x0
  have q1 := cell_lt x1
  have q2 := cell_lt y0
  have q3 := cell_lt y1
  clear HF HF1 HF2 HG1 HL HB0 HB1
  go_wp2_with (go_at_call 18; (with_reducible refine (HN.out _ _).mono ?_); rintro e w3 ⟨rfl, rfl⟩)
  go_ret
  exact ⟨rfl, HB2.out⟩
end Go.Proofs.Ytddeaiciochggaa
