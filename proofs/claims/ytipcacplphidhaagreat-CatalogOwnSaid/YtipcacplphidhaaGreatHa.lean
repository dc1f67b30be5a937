/- How a statement that came in as an argument is read: from the reading of data to ours. Conditions: none. -/
import Derived.Test.YtipcacplphidhaaGreatUb
import Derived.Test.YtipcacplphidhaaGreatTp0
import Derived.ProofKit
import Derived.OpenShut
import Derived.Carry
import Derived.SizedLaws
import Derived.Handed
import Derived.ChangeMaps5
namespace Go.Proofs.YtipcacplphidhaaGreat.Sy
open Go.ChangeShapes Go.WideShapes Go.ChangeAt Go.RowKit
set_option linter.unusedSimpArgs false
set_option linter.unusedVariables false

section
variable {H : Type} {enc : TypeId × Value → H} {w : World} {base : Nat} {spare : Nat → Bool} {held : Bool}
theorem cellsR : Tryz.prog.cellsOf 26 = 1 := by kernel_rfl
theorem cellsSx : Tryz.prog.cellsOf 64 = 8 := by kernel_rfl
theorem cellsLS : Tryz.prog.cellsOf 27 = 1 := by kernel_rfl
theorem cellsCl : Tryz.prog.cellsOf 48 = 3 := by kernel_rfl
theorem cellsLC : Tryz.prog.cellsOf 25 = 1 := by kernel_rfl
theorem cellsOd : Tryz.prog.cellsOf 85 = 2 := by kernel_rfl
theorem cellsLO : Tryz.prog.cellsOf 29 = 1 := by kernel_rfl
theorem cellsB : Tryz.prog.cellsOf 4 = 1 := by kernel_rfl
theorem cellsSt14 : Tryz.prog.cellsOf 31 = 14 := by kernel_rfl
theorem bytesL : Tryz.prog.bytesOf 28 = 24 := by kernel_rfl
theorem bytesSx : Tryz.prog.bytesOf 64 = 112 := by kernel_rfl
theorem bytesCl : Tryz.prog.bytesOf 48 = 32 := by kernel_rfl
theorem bytesOd : Tryz.prog.bytesOf 85 = 16 := by kernel_rfl

theorem open_arF {f F : Nat} (hF : f ≤ F) {cs : List Value} {x : DataW H × List MemPlace} (h : DataW.trod enc Tryz.prog w base spare held f 62 cs = some x) (hw : Lt 62 x.1) :
    ∃ (y : Ar (gf F)) (a : Option Addr) (c : Nat), cs = (KE (gf F)).cs y a c ∧ (KE (gf F)).dp Any w y a c := open_ar F cs x (DataW.trod_le hF h) hw
theorem open_exF {f F : Nat} (hF : f ≤ F) {cs : List Value} {x : DataW H × List MemPlace} (h : DataW.trod enc Tryz.prog w base spare held f 62 cs = some x) (hw : Lt 62 x.1) :
    ∃ (y : ExN (Ar (gf F))) (a : Option Addr) (c : Nat), cs = y.cs a c ∧ RdE w (gf F) a c y.l := by
  obtain ⟨y, a, c, e, hd⟩ := open_ar (F + 2) cs x (DataW.trod_le (Nat.le_trans hF (Nat.le_add_right _ _)) h) hw
  exact ⟨(y : ExN (Ar (gf F))), a, c, e, hd⟩
theorem open_exprsF {f F : Nat} (hF : f ≤ F) {cs : List Value} {x : DataW H × List MemPlace} (h : DataW.trod enc Tryz.prog w base spare held f 28 cs = some x) (hw : Lt 28 x.1) :
    ∃ (A : Option Addr) (c : Nat) (l : List (Ar (gf F))), cs = [.slice A l.length c] ∧ RdE w (gf F) A c l :=
  open_rd (KE (gf F)) Tryz.underlying28 (by rw [KE_k]; exact cellsE) (by rw [KE_b]; exact bytesE) h hw (fun m hm cs' y hy hwy => open_arF (by omega) hy hwy)
theorem open_rowsF {f F : Nat} (hF : f ≤ F) {cs : List Value} {x : DataW H × List MemPlace} (h : DataW.trod enc Tryz.prog w base spare held f 26 cs = some x) (hw : Lt 26 x.1) :
    ∃ (A : Option Addr) (c : Nat) (l : List (List (Ar (gf F)))), cs = [.slice A l.length c] ∧ RdK (KR (gf F)) Any w A c l :=
  open_rd (KR (gf F)) Tryz.underlying26 cellsL bytesL h hw (fun m hm cs' y hy hwy => by
    obtain ⟨A, c, l, e, hd⟩ := open_exprsF (F := F) (by omega) hy hwy
    exact ⟨l, A, c, e, hd⟩)
theorem list8 {α : Type} {cs : List α} (h : cs.length = 8) : ∃ c0 c1 c2 c3 c4 c5 c6 c7, cs = [c0, c1, c2, c3, c4, c5, c6, c7] := by
  match cs, h with
  | [c0, c1, c2, c3, c4, c5, c6, c7], _ => exact ⟨c0, c1, c2, c3, c4, c5, c6, c7, rfl⟩
theorem list2' {α : Type} {cs : List α} (h : cs.length = 2) : ∃ c0 c1, cs = [c0, c1] := by
  match cs, h with
  | [c0, c1], _ => exact ⟨c0, c1, rfl⟩
set_option maxRecDepth 100000 in
theorem open_setF {f F : Nat} (hF : f ≤ F) {cs : List Value} {x : DataW H × List MemPlace} (h : DataW.trod enc Tryz.prog w base spare held f 64 cs = some x) (hw : Lt 64 x.1) :
    ∃ (z : Sx (gf F)) (a : Option Addr) (c : Nat), cs = (KS (gf F)).cs z a c ∧ (KS (gf F)).dp Any w z a c := by
  obtain ⟨xs, m, hm, rfl, hlen, hxl, hf⟩ := DataW.trod_struct Tryz.underlying64 h
  rw [cellsSx] at hlen
  obtain ⟨c0, c1, c2, c3, c4, c5, c6, c7, rfl⟩ := list8 hlen
  obtain ⟨x0, x1, rfl⟩ := list2' (hxl.trans rfl)
  have h0 : DataW.trod enc Tryz.prog w base spare held m 9 [c0] = some x0 := take_as (cs := [c0, c1, c2, c3, c4, c5, c6, c7]) (hf 0 _ rfl) cellsS
  have h1 : DataW.trod enc Tryz.prog w base spare held m 62 [c1, c2, c3, c4, c5, c6, c7] = some x1 := take_as (cs := [c1, c2, c3, c4, c5, c6, c7]) (hf 1 _ rfl) cellsE
  obtain ⟨s, e0, _, _⟩ := DataW.trod_string Tryz.underlying9 h0
  have hw1 : Lt 62 x1.1 := fun n hn => hw n (by
    simp only [DataW.weights, Tryz.underlying64]
    exact DataW.weights_mem_each (j := 1) rfl rfl n hn)
  obtain ⟨y, a, c, e1, hd⟩ := open_exF (F := F) (by omega) h1 hw1
  simp only [List.cons.injEq, and_true] at e0
  subst e0
  rw [e1]
  exact ⟨⟨s, y⟩, a, c, rfl, hd⟩
theorem open_setsF {f F : Nat} (hF : f ≤ F) {cs : List Value} {x : DataW H × List MemPlace} (h : DataW.trod enc Tryz.prog w base spare held f 27 cs = some x) (hw : Lt 27 x.1) :
    ∃ (A : Option Addr) (c : Nat) (l : List (Sx (gf F))), cs = [.slice A l.length c] ∧ RdK (KS (gf F)) Any w A c l :=
  open_rd (KS (gf F)) Tryz.underlying27 cellsSx bytesSx h hw (fun m hm cs' y hy hwy => open_setF (by omega) hy hwy)
set_option maxRecDepth 100000 in
theorem open_colF {f : Nat} {cs : List Value} {x : DataW H × List MemPlace} (h : DataW.trod enc Tryz.prog w base spare held f 48 cs = some x) : ∃ (z : Cl) (a : Option Addr) (c : Nat), cs = KC.cs z a c ∧ KC.dp Any w z a c := by
  obtain ⟨xs, m, hm, rfl, hlen, hxl, hf⟩ := DataW.trod_struct Tryz.underlying48 h
  rw [cellsCl] at hlen
  obtain ⟨c0, c1, c2, rfl⟩ := list3 hlen
  obtain ⟨x0, x1, x2, rfl⟩ := list3 (hxl.trans rfl)
  have h0 : DataW.trod enc Tryz.prog w base spare held m 9 [c0] = some x0 := take_as (cs := [c0, c1, c2]) (hf 0 _ rfl) cellsS
  have h1 : DataW.trod enc Tryz.prog w base spare held m 3 [c1] = some x1 := take_as (cs := [c1, c2]) (hf 1 _ rfl) cellsI
  have h2 : DataW.trod enc Tryz.prog w base spare held m 4 [c2] = some x2 := take_as (cs := [c2]) (hf 2 _ rfl) cellsB
  obtain ⟨s, e0, _, _⟩ := DataW.trod_string Tryz.underlying9 h0
  obtain ⟨k, e1, _, _⟩ := DataW.trod_int Tryz.underlying3 h1
  obtain ⟨b, e2, _⟩ := DataW.trod_bool Tryz.underlying4 h2
  simp only [List.cons.injEq, and_true] at e0 e1 e2
  subst e0 e1 e2
  exact ⟨⟨s, k, b⟩, none, 0, rfl, trivial⟩
theorem open_colsF {f : Nat} {cs : List Value} {x : DataW H × List MemPlace} (h : DataW.trod enc Tryz.prog w base spare held f 25 cs = some x) (hw : Lt 25 x.1) :
    ∃ (A : Option Addr) (c : Nat) (l : List Cl), cs = [.slice A l.length c] ∧ RdK KC Any w A c l :=
  open_rd KC Tryz.underlying25 cellsCl bytesCl h hw (fun m hm cs' y hy hwy => open_colF hy)
set_option maxRecDepth 100000 in
theorem open_ordF {f : Nat} {cs : List Value} {x : DataW H × List MemPlace} (h : DataW.trod enc Tryz.prog w base spare held f 85 cs = some x) : ∃ (z : Od) (a : Option Addr) (c : Nat), cs = KO.cs z a c ∧ KO.dp Any w z a c := by
  obtain ⟨xs, m, hm, rfl, hlen, hxl, hf⟩ := DataW.trod_struct Tryz.underlying85 h
  rw [cellsOd] at hlen
  obtain ⟨c0, c1, rfl⟩ := list2' hlen
  obtain ⟨x0, x1, rfl⟩ := list2' (hxl.trans rfl)
  have h0 : DataW.trod enc Tryz.prog w base spare held m 3 [c0] = some x0 := take_as (cs := [c0, c1]) (hf 0 _ rfl) cellsI
  have h1 : DataW.trod enc Tryz.prog w base spare held m 4 [c1] = some x1 := take_as (cs := [c1]) (hf 1 _ rfl) cellsB
  obtain ⟨k, e0, _, _⟩ := DataW.trod_int Tryz.underlying3 h0
  obtain ⟨b, e1, _⟩ := DataW.trod_bool Tryz.underlying4 h1
  simp only [List.cons.injEq, and_true] at e0 e1
  subst e0 e1
  exact ⟨⟨k, b⟩, none, 0, rfl, trivial⟩
theorem open_ordsF {f : Nat} {cs : List Value} {x : DataW H × List MemPlace} (h : DataW.trod enc Tryz.prog w base spare held f 29 cs = some x) (hw : Lt 29 x.1) :
    ∃ (A : Option Addr) (c : Nat) (l : List Od), cs = [.slice A l.length c] ∧ RdK KO Any w A c l :=
  open_rd KO Tryz.underlying29 cellsOd bytesOd h hw (fun m hm cs' y hy hwy => open_ordF hy)
theorem list14 {α : Type} {cs : List α} (h : cs.length = 14) : ∃ c0 c1 c2 c3 c4 c5 c6 c7 c8 c9 c10 c11 c12 c13, cs = [c0, c1, c2, c3, c4, c5, c6, c7, c8, c9, c10, c11, c12, c13] := by
  match cs, h with
  | [c0, c1, c2, c3, c4, c5, c6, c7, c8, c9, c10, c11, c12, c13], _ => exact ⟨c0, c1, c2, c3, c4, c5, c6, c7, c8, c9, c10, c11, c12, c13, rfl⟩

set_option maxRecDepth 100000 in
set_option maxHeartbeats 4000000 in
theorem open_stF {f F : Nat} (hF : f ≤ F) {cs : List Value} {x : DataW H × List MemPlace} (h : DataW.trod enc Tryz.prog w base spare held f 31 cs = some x) (hw : Lt 31 x.1) :
    ∃ (z : St (gf F)) (hs : Hs), cs = (z.cs hs).toList ∧ RdSt Any w z hs := by
  obtain ⟨xs, m, hm, rfl, hlen, hxl, hf⟩ := DataW.trod_struct Tryz.underlying31 h
  rw [cellsSt14] at hlen
  obtain ⟨c0, c1, c2, c3, c4, c5, c6, c7, c8, c9, c10, c11, c12, c13, rfl⟩ := list14 hlen
  obtain ⟨x0, x1, x2, x3, x4, x5, x6, x7, x8, x9, x10, x11, x12, x13, rfl⟩ := list14 (hxl.trans rfl)
  clear hlen hxl h
  have h0 : DataW.trod enc Tryz.prog w base spare held m 3 [c0] = some x0 := take_as (cs := [c0, c1, c2, c3, c4, c5, c6, c7, c8, c9, c10, c11, c12, c13]) (hf 0 _ rfl) cellsI
  have h1 : DataW.trod enc Tryz.prog w base spare held m 9 [c1] = some x1 := take_as (cs := [c1, c2, c3, c4, c5, c6, c7, c8, c9, c10, c11, c12, c13]) (hf 1 _ rfl) cellsS
  have h2 : DataW.trod enc Tryz.prog w base spare held m 25 [c2] = some x2 := take_as (cs := [c2, c3, c4, c5, c6, c7, c8, c9, c10, c11, c12, c13]) (hf 2 _ rfl) cellsLC
  have h3 : DataW.trod enc Tryz.prog w base spare held m 9 [c3] = some x3 := take_as (cs := [c3, c4, c5, c6, c7, c8, c9, c10, c11, c12, c13]) (hf 3 _ rfl) cellsS
  have h4 : DataW.trod enc Tryz.prog w base spare held m 9 [c4] = some x4 := take_as (cs := [c4, c5, c6, c7, c8, c9, c10, c11, c12, c13]) (hf 4 _ rfl) cellsS
  have h5 : DataW.trod enc Tryz.prog w base spare held m 26 [c5] = some x5 := take_as (cs := [c5, c6, c7, c8, c9, c10, c11, c12, c13]) (hf 5 _ rfl) cellsR
  have h6 : DataW.trod enc Tryz.prog w base spare held m 27 [c6] = some x6 := take_as (cs := [c6, c7, c8, c9, c10, c11, c12, c13]) (hf 6 _ rfl) cellsLS
  have h7 : DataW.trod enc Tryz.prog w base spare held m 28 [c7] = some x7 := take_as (cs := [c7, c8, c9, c10, c11, c12, c13]) (hf 7 _ rfl) cellsL
  have h8 : DataW.trod enc Tryz.prog w base spare held m 9 [c8] = some x8 := take_as (cs := [c8, c9, c10, c11, c12, c13]) (hf 8 _ rfl) cellsS
  have h9 : DataW.trod enc Tryz.prog w base spare held m 28 [c9] = some x9 := take_as (cs := [c9, c10, c11, c12, c13]) (hf 9 _ rfl) cellsL
  have h10 : DataW.trod enc Tryz.prog w base spare held m 28 [c10] = some x10 := take_as (cs := [c10, c11, c12, c13]) (hf 10 _ rfl) cellsL
  have h11 : DataW.trod enc Tryz.prog w base spare held m 28 [c11] = some x11 := take_as (cs := [c11, c12, c13]) (hf 11 _ rfl) cellsL
  have h12 : DataW.trod enc Tryz.prog w base spare held m 29 [c12] = some x12 := take_as (cs := [c12, c13]) (hf 12 _ rfl) cellsLO
  have h13 : DataW.trod enc Tryz.prog w base spare held m 3 [c13] = some x13 := take_as (cs := [c13]) (hf 13 _ rfl) cellsI
  have hwj : ∀ (j : Nat) (t : TypeId) (d : DataW H × List MemPlace), ([x0, x1, x2, x3, x4, x5, x6, x7, x8, x9, x10, x11, x12, x13] : List (DataW H × List MemPlace))[j]? = some d → ((Tryz.prog.fieldsOf 31).toList.map (·.type))[j]? = some t → Lt t d.1 := fun j t d hd ht n hn => hw n (by
    simp only [DataW.weights, Tryz.underlying31]
    refine DataW.weights_mem_each (j := j) ?_ ?_ n hn
    · exact ht
    · rw [List.getElem?_map, hd]; rfl)
  clear hf hw
  obtain ⟨v0, e0, _, _⟩ := DataW.trod_int Tryz.underlying3 h0
  obtain ⟨v1, e1, _, _⟩ := DataW.trod_string Tryz.underlying9 h1
  obtain ⟨A2, k2, v2, e2, r2⟩ := open_colsF h2 (hwj 2 25 x2 rfl rfl)
  obtain ⟨v3, e3, _, _⟩ := DataW.trod_string Tryz.underlying9 h3
  obtain ⟨v4, e4, _, _⟩ := DataW.trod_string Tryz.underlying9 h4
  obtain ⟨A5, k5, v5, e5, r5⟩ := open_rowsF (F := F) (by omega) h5 (hwj 5 26 x5 rfl rfl)
  obtain ⟨A6, k6, v6, e6, r6⟩ := open_setsF (F := F) (by omega) h6 (hwj 6 27 x6 rfl rfl)
  obtain ⟨A7, k7, v7, e7, r7⟩ := open_exprsF (F := F) (by omega) h7 (hwj 7 28 x7 rfl rfl)
  obtain ⟨v8, e8, _, _⟩ := DataW.trod_string Tryz.underlying9 h8
  obtain ⟨A9, k9, v9, e9, r9⟩ := open_exprsF (F := F) (by omega) h9 (hwj 9 28 x9 rfl rfl)
  obtain ⟨A10, k10, v10, e10, r10⟩ := open_exprsF (F := F) (by omega) h10 (hwj 10 28 x10 rfl rfl)
  obtain ⟨A11, k11, v11, e11, r11⟩ := open_exprsF (F := F) (by omega) h11 (hwj 11 28 x11 rfl rfl)
  obtain ⟨A12, k12, v12, e12, r12⟩ := open_ordsF h12 (hwj 12 29 x12 rfl rfl)
  obtain ⟨v13, e13, _, _⟩ := DataW.trod_int Tryz.underlying3 h13
  simp only [List.cons.injEq, and_true] at e0 e1 e2 e3 e4 e5 e6 e7 e8 e9 e10 e11 e12 e13
  subst e0 e1 e2 e3 e4 e5 e6 e7 e8 e9 e10 e11 e12 e13
  exact ⟨⟨v0, v1, v2, v3, v4, v5, v6, v7, v8, v9, v10, v11, v12, v13⟩, ⟨⟨A2, k2⟩, ⟨A5, k5⟩, ⟨A6, k6⟩, ⟨A7, k7⟩, ⟨A9, k9⟩, ⟨A10, k10⟩, ⟨A11, k11⟩, ⟨A12, k12⟩⟩, rfl, ⟨r2, r5, r6, r7, r9, r10, r11, r12⟩⟩
set_option maxRecDepth 100000 in
theorem open_stmt {r : Reach} {b0 : Nat} {v : Value} {d : DataW H} {q : List MemPlace} (hv : Value.okWide Tryz.prog w r b0 31 v) (h : DataW.Trod enc Tryz.prog w base spare held 31 v d q) (hw : Lt 31 d) :
    ∃ f0 : Nat, ∀ F, f0 ≤ F → ∃ (z : St (gf F)) (hs : Hs), v = z.val hs ∧ RdSt Any w z hs := by
  obtain ⟨cs, rfl, hsz⟩ := okWide_struct Tryz.underlying31 hv
  obtain ⟨fuel, hf⟩ := h
  refine ⟨fuel, fun F hF => ?_⟩
  obtain ⟨z, hs, e, hr⟩ := open_stF hF hf hw
  refine ⟨z, hs, ?_, hr⟩
  have e2 : cs.toList = (z.cs hs).toList := by simpa [Value.cells] using e
  have e3 : cs = z.cs hs := Array.toList_inj.1 e2
  rw [e3]
end
end Go.Proofs.YtipcacplphidhaaGreat.Sy
