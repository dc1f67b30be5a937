/- The statements' own table and rows, and alive: the walks. Conditions: none. -/
import Derived.Test.YtjbebhhoakmceaaJv
namespace Go.Proofs.Ytjbebhhoakmceaa
open Go.RowKit Go.Sort
set_option linter.unusedSimpArgs false
set_option linter.unusedVariables false

def t0 : Tb := ⟨⟨#[116]⟩, [⟨⟨#[97]⟩, 1, true⟩, ⟨⟨#[98]⟩, 3, false⟩], 0, []⟩
def K1 : Vl := ⟨1, 1, ⟨#[]⟩, by decide +kernel, by decide⟩
def K2 : Vl := ⟨1, 2, ⟨#[]⟩, by decide +kernel, by decide⟩
def X : Vl := ⟨3, 0, ⟨#[120]⟩, by decide +kernel, by decide⟩
@[reducible] def r1 : List Vl := [K1, X]
@[reducible] def r2 : List Vl := [K2, X]
theorem ins_alive : insR t0 [] [r2, r1] = (0, [r1, r2]) := by kernel_rfl
theorem upd_alive : updR t0 [r1, r2] [K1, K2] [r2, r1] = (0, [r1, r2]) := by kernel_rfl

theorem thn {a b c : World} (h : Below a.heap.size a b) (k : Below b.heap.size b c) : Below a.heap.size a c := h.trans (k.mono h.size)
theorem new_RdC (W : World) (T : TypeId) (a0 a2 : ByteArray) (k0 k2 : Int) (n0 n2 : Bool) (g : Nat) (hg : g = W.heap.size) : RdC (W.alloc (.cells #[.string a0, .int .i64 k0, .bool n0, .string a2, .int .i64 k2, .bool n2] T)) (some ⟨g, 0, none⟩) [⟨a0, k0, n0⟩, ⟨a2, k2, n2⟩] := fun _ => ⟨_, rfl, fun j x hj => by
  subst hg
  match j, hj with
  | 0, hj =>
    simp at hj; subst hj
    rw [add_lit]
    exact ⟨by rw [cell_last _ _ _ _ _ rfl]; rfl, by rw [cell_last _ _ _ _ _ rfl]; rfl, by rw [cell_last _ _ _ _ _ rfl]; rfl⟩
  | 1, hj =>
    simp at hj; subst hj
    rw [add_lit]
    exact ⟨by rw [cell_last _ _ _ _ _ rfl]; rfl, by rw [cell_last _ _ _ _ _ rfl]; rfl, by rw [cell_last _ _ _ _ _ rfl]; rfl⟩
  | j + 2, hj => simp at hj⟩
theorem RdC.setCells {w : World} {A : Option Addr} {l : List Cl} (h : RdC w A l) (b o : Nat) (vs : List Value) (hb : ∀ ad, A = some ad → ad.block ≠ b) : RdC (w.setCells b o vs) A l := fun hl => by
  obtain ⟨ad, e, hc⟩ := h hl
  have hne := hb ad e
  exact ⟨ad, e, fun j x hj => by
    obtain ⟨h0, h1, h2⟩ := hc j x hj
    refine ⟨(World.cell?_setCells_out b vs o w _ (fun e' _ => absurd e' ?_)).trans h0, (World.cell?_setCells_out b vs o w _ (fun e' _ => absurd e' ?_)).trans h1, (World.cell?_setCells_out b vs o w _ (fun e' _ => absurd e' ?_)).trans h2⟩ <;> simpa [add_block] using hne⟩
set_option maxHeartbeats 1000000 in
theorem table_any (w : World) : Calls Try.prog 14 #[] w fun e w' => ∃ g, e = .returned (tbl ⟨#[116]⟩ (some ⟨g, 0, none⟩) 2 2 0 none 0 0) ∧ RdC w' (some ⟨g, 0, none⟩) t0.cols ∧ Below w.heap.size w w' := by
  go_enter Try.func14, Try.ntmps14
  go_wp2
  refine bodyPost_ret (v := tbl ⟨#[116]⟩ (some ⟨w.heap.size + 1, 0, none⟩) 2 2 0 none 0 0) (by simp [results, Try.results14, go_sem]) rfl ⟨_, rfl, ?_, ?_⟩
  · exact new_RdC _ _ _ _ _ _ _ _ _ (by simp)
  · exact (below1 _ _).alloc (by simp) _
theorem new_RdL (W : World) (T : TypeId) (a b : Vl) (g : Nat) (hg : g = W.heap.size) : RdL (W.alloc (.cells #[.int .i64 a.k, .int .i64 a.n, .string a.s, .int .i64 b.k, .int .i64 b.n, .string b.s] T)) (some ⟨g, 0, none⟩) [a, b] := fun _ => ⟨_, rfl, fun j x hj => by
  subst hg
  match j, hj with
  | 0, hj =>
    simp at hj; subst hj
    rw [add_lit]
    exact ⟨by rw [cell_last _ _ _ _ _ rfl]; rfl, by rw [cell_last _ _ _ _ _ rfl]; rfl, by rw [cell_last _ _ _ _ _ rfl]; rfl⟩
  | 1, hj =>
    simp at hj; subst hj
    rw [add_lit]
    exact ⟨by rw [cell_last _ _ _ _ _ rfl]; rfl, by rw [cell_last _ _ _ _ _ rfl]; rfl, by rw [cell_last _ _ _ _ _ rfl]; rfl⟩
  | j + 2, hj => simp at hj⟩
theorem row_any (v : Vl) (hk : v.k = 1) (hs : v.s = ⟨#[]⟩) (n : Int) (hn : n = v.n) (w : World) : Calls Try.prog 15 #[.int .i64 n] w fun e w' => ∃ g, e = .returned (.slice (some ⟨g, 0, none⟩) 2 2) ∧ RdL w' (some ⟨g, 0, none⟩) [v, X] ∧ Below w.heap.size w w' := by
  have h := new_RdL w 39 v X w.heap.size rfl
  rw [hk, hs, ← hn] at h
  have H := Lib.hid h
  clear h hk hs hn
  go_enter Try.func15, Try.ntmps15
  go_wp2
  go_ret
  exact ⟨_, rfl, H.out, below1 _ _⟩
theorem new_RdR (W : World) (T : TypeId) (A B : Addr) (c d : Nat) (a b : List Vl) (n k : Nat) (g : Nat) (hg : g = W.heap.size) (ha : RdL W (some A) a) (hb : RdL W (some B) b) (hn : n = a.length) (hk : k = b.length) (hna : a.length * 32 ≤ 140737488355328) (hnb : b.length * 32 ≤ 140737488355328) : RdR (W.alloc (.cells #[.slice (some A) n c, .slice (some B) k d] T)) (some ⟨g, 0, none⟩) [a, b] := fun _ => ⟨_, rfl, fun j x hj => by
  subst hg hn hk
  match j, hj with
  | 0, hj =>
    simp at hj; subst hj
    rw [add_lit]
    exact ⟨_, by rw [cell_last _ _ _ _ _ rfl]; rfl, _, _, rfl, ha.below (below1 _ _), (fun e => by cases e), hna⟩
  | 1, hj =>
    simp at hj; subst hj
    rw [add_lit]
    exact ⟨_, by rw [cell_last _ _ _ _ _ rfl]; rfl, _, _, rfl, hb.below (below1 _ _), (fun e => by cases e), hnb⟩
  | j + 2, hj => simp at hj⟩
theorem RdT_0 {w : World} {g : Nat} (h : RdC w (some ⟨g, 0, none⟩) t0.cols) : RdT w t0 (some ⟨g, 0, none⟩) none := ⟨h, fun e => absurd rfl e, by decide⟩

theorem insert_0 (g p : Nat) (w : World) (hc : RdC w (some ⟨g, 0, none⟩) t0.cols) (hm : RdR w (some ⟨p, 0, none⟩) [r2, r1]) :
    Calls Try.prog 7 #[tbl ⟨#[116]⟩ (some ⟨g, 0, none⟩) 2 2 0 none 0 0, .slice none 0 0, .slice (some ⟨p, 0, none⟩) 2 2] w (TurnPost w (0, [r1, r2])) := by
  have h := rInsert_any t0 (some ⟨g, 0, none⟩) none 2 0 none (some ⟨p, 0, none⟩) 0 0 2 2 [] [r2, r1] w (RdT_0 hc) rfl (fun e => absurd rfl e) (fun _ => rfl) (by decide) rfl hm (by decide)
  rw [ins_alive] at h
  exact h
theorem update_0 (g k p : Nat) (A : Option Addr) (c : Nat) (w : World) (hc : RdC w (some ⟨g, 0, none⟩) t0.cols) (hl : RdR w A [r1, r2]) (hA : A = none → [r1, r2].length = 0) (hk : RdL w (some ⟨k, 0, none⟩) [K1, K2]) (hm : RdR w (some ⟨p, 0, none⟩) [r2, r1]) :
    Calls Try.prog 16 #[tbl ⟨#[116]⟩ (some ⟨g, 0, none⟩) 2 2 0 none 0 0, .slice A 2 c, .slice (some ⟨k, 0, none⟩) 2 2, .slice (some ⟨p, 0, none⟩) 2 2] w (TurnPost w (0, [r1, r2])) := by
  have h := rUpdate_any t0 (some ⟨g, 0, none⟩) none 2 0 A (some ⟨k, 0, none⟩) (some ⟨p, 0, none⟩) 2 c 2 2 2 2 [r1, r2] [K1, K2] [r2, r1] w (RdT_0 hc) rfl hl hA (by decide) rfl hk (by decide) rfl hm (by decide)
  rw [upd_alive] at h
  exact h

set_option maxRecDepth 100000 in
set_option maxHeartbeats 8000000 in
theorem alive_any (w : World) : Calls Try.prog 5 #[] w fun e w' => e = .returned (.bool true) ∧ Below w.heap.size w w' := by
  have ht := fun w => table_any w
  have h1 := fun w => row_any K1 rfl rfl 1 rfl w
  have h2 := fun w => row_any K2 rfl rfl 2 rfl w
  have HT := Lib.hid ht
  have H1 := Lib.hid h1
  have H2 := Lib.hid h2
  clear ht h1 h2
  go_enter Try.func5, Try.ntmps5
  go_upto_region 2 with (first
    | (go_at_call 14; (with_reducible refine (HT.out _).mono ?_); rintro e w1 ⟨g, rfl, hc, hb⟩; have HC1 := Lib.hid hc; have HB1 := Lib.hid hb; clear hc hb)
    | (go_at_call 15; (with_reducible refine (H2.out _).mono ?_); rintro e w2 ⟨p, rfl, hr, hb⟩; have HR2 := Lib.hid hr; have HB2 := Lib.hid hb; clear hr hb)
    | (go_at_call 15; (with_reducible refine (H1.out _).mono ?_); rintro e w3 ⟨q, rfl, hr, hb⟩; have HR1 := Lib.hid hr; have HB3 := Lib.hid hb; clear hr hb)
    | (go_at_call 7; (with_reducible refine (insert_0 g w3.heap.size _ (((HC1.out.below HB2.out).below HB3.out).below (below1 _ _)) (new_RdR w3 _ ⟨p, 0, none⟩ ⟨q, 0, none⟩ 2 2 r2 r1 2 2 _ rfl (HR2.out.below HB3.out) HR1.out rfl rfl (by decide) (by decide))).mono ?_); intro e w4 hp; obtain ⟨A4, c4, he, hr, hA⟩ := hp.2.1 rfl; subst he; have HR4 := Lib.hid hr; have HA4 := Lib.hid hA; have HB4 := Lib.hid hp.2.2; clear hp hr hA))
  have HBA := Lib.hid (thn (thn (thn HB1.out HB2.out) HB3.out) (thn (below1 _ _) HB4.out))
  clear HB1 HB2 HB3 HB4 HC1 HR1 HR2
  go_upto_region 3 with (first
    | (go_at_call 14; (with_reducible refine (HT.out _).mono ?_); rintro e w5 ⟨g5, rfl, hc, hb⟩; have HC5 := Lib.hid hc; have HB5 := Lib.hid hb; have HK := Lib.hid (show RdL (w5.alloc (Obj.cells #[.int .i64 1, .int .i64 1, .string ⟨#[]⟩, .int .i64 1, .int .i64 2, .string ⟨#[]⟩] 39)) (some ⟨w5.heap.size, 0, none⟩) [K1, K2] from new_RdL w5 _ K1 K2 _ rfl); clear hc hb)
    | (go_at_call 15; (with_reducible refine (H2.out _).mono ?_); rintro e w6 ⟨p6, rfl, hr, hb⟩; have HR6 := Lib.hid hr; have HB6 := Lib.hid hb; clear hr hb)
    | (go_at_call 15; (with_reducible refine (H1.out _).mono ?_); rintro e w7 ⟨q7, rfl, hr, hb⟩; have HR7 := Lib.hid hr; have HB7 := Lib.hid hb; clear hr hb)
    | (go_at_call 16; (with_reducible refine (update_0 g5 w5.heap.size w7.heap.size A4 c4 _ ((((HC5.out.below (below1 _ _)).below HB6.out).below HB7.out).below (below1 _ _)) (((((HR4.out.below HB5.out).below (below1 _ _)).below HB6.out).below HB7.out).below (below1 _ _)) HA4.out (((HK.out.below HB6.out).below HB7.out).below (below1 _ _)) (new_RdR w7 _ ⟨p6, 0, none⟩ ⟨q7, 0, none⟩ 2 2 r2 r1 2 2 _ rfl (HR6.out.below HB7.out) HR7.out rfl rfl (by decide) (by decide))).mono ?_); intro e w8 hp; obtain ⟨A8, c8, he, hr, hA⟩ := hp.2.1 rfl; subst he; have HR8 := Lib.hid hr; have HB8 := Lib.hid hp.2.2; clear hp hr hA))
  have HBC := Lib.hid (thn (thn HBA.out HB5.out) (thn (below1 _ _) (thn (thn HB6.out HB7.out) (thn (below1 _ _) HB8.out))))
  obtain ⟨ad, rA, rc, e0, m0, mr, _, _⟩ := HR8.out.at_ (j := 0) (by decide)
  subst e0
  rw [add0] at m0
  obtain ⟨bd, e1, v0, v1, v2⟩ := mr.at_ (j := 0) (by decide)
  subst e1
  have m0' : w8.cell? ad = some (.slice (some bd) 2 rc) := m0
  rw [Nat.zero_mul, add0] at v1
  have v1' : w8.cell? ⟨bd.block, bd.off + 1, none⟩ = some (.int .i64 1) := v1
  clear HC5 HR6 HR7 HB5 HB6 HB7 HB8 HK HR4 HA4 HBA HR8 m0 mr v0 v1 v2
  go_wp2_with (go_at_call 8; refine (num_any _ _).mono ?_; rintro e w9 ⟨rfl, rfl⟩)
  go_ret
  exact ⟨rfl, HBC.out⟩
end Go.Proofs.Ytjbebhhoakmceaa
