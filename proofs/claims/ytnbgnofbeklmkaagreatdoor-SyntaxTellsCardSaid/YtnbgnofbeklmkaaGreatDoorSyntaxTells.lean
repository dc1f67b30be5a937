/- For any a statement and any a text SyntaxTells answers true (whether any statement may be, its print, and whether any text is a name, are as the page says), and what is handed in reads as before; the library's variables hold what the program's text lays into them (tied to the text). No other conditions. -/
import Derived.Test.YtnbgnofbeklmkaaGreatDoorRows
import Derived.Test.YtnbgnofbeklmkaaGreatDoorTie
import Derived.Test.YtnbgnofbeklmkaaGreatDoorUb
import Derived.Test.YtnbgnofbeklmkaaGreatDoorUf
import Derived.ProofKit
import Derived.OpenShut
import Derived.Carry
import Derived.SizedLaws
import Derived.Handed
import Derived.ChangeMaps5
import Derived.Lib.LaidTab
import Derived.Lib.SmallJoins
import Derived.Stop.LaidErr
import Derived.Shelf.Vars
import Derived.Lay
import Derived.LaidOnce
import Derived.SevenTiedAt
import Derived.Test.YtnbgnofbeklmkaaGreatDoorTp0
import Derived.Test.YtnbgnofbeklmkaaGreatDoorUi
import Derived.Test.YtnbgnofbeklmkaaGreatDoorGe
import Derived.Laws.Concat
import Derived.Test.YtnbgnofbeklmkaaGreatDoorFe0
import Derived.Lib.QuietBelow
import Derived.Test.YtnbgnofbeklmkaaGreatDoorFa
import Derived.Test.YtnbgnofbeklmkaaGreatDoorGf
import Derived.Test.YtnbgnofbeklmkaaGreatDoorFc
import Derived.Test.YtnbgnofbeklmkaaGreatDoorUk
import Derived.Test.YtnbgnofbeklmkaaGreatDoorFe
import Derived.Test.YtnbgnofbeklmkaaGreatDoorCards
/- What the listed variables and the world's shape give a walk, a start that meets them, and how an expression as an argument is read. Conditions: none. -/
namespace Go.Proofs.YtnbgnofbeklmkaaGreatDoor.Sy
open Go.Proofs.YtnbgnofbeklmkaaGreatDoor
open Go.ChangeShapes Go.WideShapes Go.ChangeAt Go.RowKit
set_option linter.unusedSimpArgs false
set_option linter.unusedVariables false

theorem own : ownKnob Tryz.prog.godebug = none := by kernel_rfl
def laid : List (String × DataW Unit) := Rows.syntaxTellsRow.laid
theorem laidOut : laidOutB Tryz.prog = true := by kernel_rfl
theorem recE : Tryz.prog.readableRec 51 = true := by kernel_rfl
theorem rowE : 51 < Tryz.prog.types.size := of_decide_eq_true (by kernel_rfl)
theorem tPow : (Tryz.prog.globals[3]?).map (·.type) = some 231 := by kernel_rfl
theorem cPow : Tryz.prog.cellsOf 231 = 20 := by kernel_rfl
theorem cU64 : Tryz.prog.cellsOf 218 = 1 := by kernel_rfl
theorem dPow : (Rows.laid_internal_strconv_uint64pow10 : DataW Unit) = Lib.tabData .u64 Lib.pow10Tab := by kernel_rfl
theorem env_of {W : World} (h : laidMetH Tryz.prog laid W) (hsh : W.ShapedOpen Tryz.prog) : Env W.heap.size W := by
  rw [MakeChecks.laidMetH_plain _ _ _ (by kernel_rfl)] at h
  have h2 : laidMet Tryz.prog laid W := h
  have h3 : laidMet Tryz.prog (("internal/strconv.uint64pow10", Rows.laid_internal_strconv_uint64pow10) :: [("unicode/utf8.acceptRanges", Rows.laid_unicode_utf8_acceptRanges), ("unicode/utf8.first", Rows.laid_unicode_utf8_first)]) W := laidMet.tail (laidMet.tail h2)
  rw [dPow] at h3
  obtain ⟨m, hm⟩ := cell_of_shapedOpen_int (g := 0) (t := 3) (k := .i64) hsh (of_decide_eq_true (by kernel_rfl)) (zero := #[.int .i64 0]) (by kernel_rfl) rfl (by kernel_rfl) (by kernel_rfl) Tryz.underlying3
  exact Env.start hm (Lib.tabIs_of_head globalPow tPow Tryz.underlying231 Tryz.underlying218 cU64 cPow h3)

/-- The plain wrap with a condition of one's own, the world's shape kept. -/
theorem returns_and_shaped {H : Type} {enc : TypeId × Value → H} {a : Assume} {C : Checked} {os : Os} {f : FuncId} {fn : Func} {s : ChangeSpec} {conds : List PathCond} {apart fresh handsOn again : Bool} {X : World → Array Value → Prop}
    (hX : ∀ (w w' : World) (args : Array Value), w.heap = w'.heap → X w args → X w' args)
    (own : ownKnob C.prog.godebug = none) (started : os.Started) (noInit : C.prog.inits.idxOf? f = none) (hfn : C.prog.funcs[f]? = some fn)
    (witness : ∃ (w : World) (tape : Tape) (i : Input), w.os = os ∧ (w.forCall tape i).Shaped C.prog ∧ i.vars = [] ∧ Input.okWide C.prog (w.forCall tape i) .any w.heap.size f i ∧
      ((s.pre enc C.prog fn conds apart (w.forCall tape i).memory i.args ∧ X (w.forCall tape i).memory i.args) ∧ sizedMet enc C.prog fn (OpenSpec.ofChange s) apart (w.forCall tape i).memory i.args) ∧ a.holds C.prog (lone (Frame.enter C.prog f i.args .normal) [] (w.forCall tape i)))
    (contract : ∀ (W : World) (base : Nat) (args : Array Value) (ds gs : List (DataW H)) (before : List MemPlace),
      (∀ (j : Nat) t v, fn.params[j]? = some t → args[j]? = some v → Value.okWide C.prog W .any base t v) →
      DataW.Whole enc C.prog fn.params.toList s.vars apart W args.toList ds gs before →
      (DataW.weightsEach C.prog (fn.params.toList ++ s.plain.varTypes C.prog) (ds ++ gs)).all (· ≤ reachBytes) = true → X W args → W.ShapedOpen C.prog →
      Calls C.prog f args W fun e W' => ∃ v, e = .returned v ∧ s.post enc C.prog fn apart fresh handsOn again W args v W') :
    ReturnsInHanded a C os f .any (fun w args => (s.pre enc C.prog fn conds apart w args ∧ X w args) ∧ sizedMet enc C.prog fn (OpenSpec.ofChange s) apart w args) (s.post enc C.prog fn apart fresh handsOn again) := by
  refine returnsInHanded_of_calls own started noInit witness ?_
  intro w tape i _ hsh _ hok hpre hholds
  obtain ⟨_, _, _, fn', hfn', _, _, _, _, hval⟩ := hok
  have e : fn' = fn := Option.some.inj (hfn'.symm.trans hfn)
  subst e
  obtain ⟨⟨⟨ds, gs, before, hw, hc⟩, hx⟩, hz⟩ := hpre
  have hw' := DataW.Whole.of_heap (w' := w.forCall tape i) (by rfl) hw
  refine (contract (w.forCall tape i) w.heap.size i.args ds gs before hval hw' (hz.weights hw) (hX _ _ _ (by rfl) hx) hsh).mono fun e W' ⟨v, he, hp⟩ => ?_
  subst he
  exact ChangeSpec.post_blind hp

theorem start_shaped (os : Os) (args : Array Value) : ((World.laidAll Tryz.prog os laid).forCall (fun _ _ => 0) ⟨#[], args, []⟩).Shaped Tryz.prog := World.shaped_of_ZipB (by kernel_rfl) (by kernel_rfl)
theorem start_met (os : Os) (args : Array Value) : laidMetH Tryz.prog laid ((World.laidAll Tryz.prog os laid).forCall (fun _ _ => 0) ⟨#[], args, []⟩).memory := by
  rw [MakeChecks.laidMetH_plain _ _ _ (by kernel_rfl)]
  exact laidMet_laidAll _ (by kernel_rfl) (by kernel_rfl)

section
variable {H : Type} {enc : TypeId × Value → H} {w : World} {base : Nat} {spare : Nat → Bool} {held : Bool}
set_option maxRecDepth 100000 in
theorem open_expr {r : Reach} {b0 : Nat} {v : Value} {d : DataW H} {p : List MemPlace} (hv : Value.okWide Tryz.prog w r b0 51 v) (h : DataW.Trod enc Tryz.prog w base spare held 51 v d p) (hw : Lt 51 d) :
    ∃ (n : Nat) (x : ExN (Ar n)) (a : Option Addr) (c : Nat), v = x.val a c ∧ RdE w n a c x.l := by
  obtain ⟨cs, rfl, hsz⟩ := okWide_struct Tryz.underlying51 hv
  obtain ⟨fuel, hf⟩ := h
  obtain ⟨y, a, c, e, hd⟩ := open_ar fuel _ _ hf hw
  rw [KE_cs] at e
  rw [KE_dp] at hd
  refine ⟨gf fuel - 1, y.e, a, c, ?_, hd⟩
  have e2 : cs.toList = y.e.cs a c := by simpa [Value.cells] using e
  have e3 : cs = (y.e.cs a c).toArray := by rw [← e2]
  rw [e3]
  rfl
theorem lt_one {t : TypeId} {ds : List (DataW H)} {ts : List TypeId} {d : DataW H} {j : Nat} (h : (DataW.weightsEach Tryz.prog ts ds).all (· ≤ reachBytes) = true) (ht : ts[j]? = some t) (hd : ds[j]? = some d) : Lt t d := fun n hn =>
  of_decide_eq_true (List.all_eq_true.1 h n (DataW.weights_mem_each ht hd n hn))
end
end Go.Proofs.YtnbgnofbeklmkaaGreatDoor.Sy
/- How a statement that came in as an argument is read: from the reading of data to ours. Conditions: none. -/
namespace Go.Proofs.YtnbgnofbeklmkaaGreatDoor
open Go.ChangeShapes Go.WideShapes Go.ChangeAt Go.RowKit
set_option linter.unusedSimpArgs false
set_option linter.unusedVariables false

section
variable {H : Type} {enc : TypeId × Value → H} {w : World} {base : Nat} {spare : Nat → Bool} {held : Bool}
theorem cellsR : Tryz.prog.cellsOf 23 = 1 := by kernel_rfl
theorem cellsSx : Tryz.prog.cellsOf 59 = 8 := by kernel_rfl
theorem cellsLS : Tryz.prog.cellsOf 24 = 1 := by kernel_rfl
theorem cellsCl : Tryz.prog.cellsOf 82 = 3 := by kernel_rfl
theorem cellsLC : Tryz.prog.cellsOf 22 = 1 := by kernel_rfl
theorem cellsOd : Tryz.prog.cellsOf 85 = 2 := by kernel_rfl
theorem cellsLO : Tryz.prog.cellsOf 26 = 1 := by kernel_rfl
theorem cellsB : Tryz.prog.cellsOf 4 = 1 := by kernel_rfl
theorem cellsSt14 : Tryz.prog.cellsOf 28 = 14 := by kernel_rfl
theorem bytesL : Tryz.prog.bytesOf 25 = 24 := by kernel_rfl
theorem bytesSx : Tryz.prog.bytesOf 59 = 112 := by kernel_rfl
theorem bytesCl : Tryz.prog.bytesOf 82 = 32 := by kernel_rfl
theorem bytesOd : Tryz.prog.bytesOf 85 = 16 := by kernel_rfl

theorem open_arF {f F : Nat} (hF : f ≤ F) {cs : List Value} {x : DataW H × List MemPlace} (h : DataW.trod enc Tryz.prog w base spare held f 51 cs = some x) (hw : Lt 51 x.1) :
    ∃ (y : Ar (gf F)) (a : Option Addr) (c : Nat), cs = (KE (gf F)).cs y a c ∧ (KE (gf F)).dp Any w y a c := open_ar F cs x (DataW.trod_le hF h) hw
theorem open_exF {f F : Nat} (hF : f ≤ F) {cs : List Value} {x : DataW H × List MemPlace} (h : DataW.trod enc Tryz.prog w base spare held f 51 cs = some x) (hw : Lt 51 x.1) :
    ∃ (y : ExN (Ar (gf F))) (a : Option Addr) (c : Nat), cs = y.cs a c ∧ RdE w (gf F) a c y.l := by
  obtain ⟨y, a, c, e, hd⟩ := open_ar (F + 2) cs x (DataW.trod_le (Nat.le_trans hF (Nat.le_add_right _ _)) h) hw
  exact ⟨(y : ExN (Ar (gf F))), a, c, e, hd⟩
theorem open_exprsF {f F : Nat} (hF : f ≤ F) {cs : List Value} {x : DataW H × List MemPlace} (h : DataW.trod enc Tryz.prog w base spare held f 25 cs = some x) (hw : Lt 25 x.1) :
    ∃ (A : Option Addr) (c : Nat) (l : List (Ar (gf F))), cs = [.slice A l.length c] ∧ RdE w (gf F) A c l :=
  open_rd (KE (gf F)) Tryz.underlying25 (by rw [KE_k]; exact cellsE) (by rw [KE_b]; exact bytesE) h hw (fun m hm cs' y hy hwy => open_arF (by omega) hy hwy)
theorem open_rowsF {f F : Nat} (hF : f ≤ F) {cs : List Value} {x : DataW H × List MemPlace} (h : DataW.trod enc Tryz.prog w base spare held f 23 cs = some x) (hw : Lt 23 x.1) :
    ∃ (A : Option Addr) (c : Nat) (l : List (List (Ar (gf F)))), cs = [.slice A l.length c] ∧ RdK (KR (gf F)) Any w A c l :=
  open_rd (KR (gf F)) Tryz.underlying23 cellsL bytesL h hw (fun m hm cs' y hy hwy => by
    obtain ⟨A, c, l, e, hd⟩ := open_exprsF (F := F) (by omega) hy hwy
    exact ⟨l, A, c, e, hd⟩)
theorem list8 {α : Type} {cs : List α} (h : cs.length = 8) : ∃ c0 c1 c2 c3 c4 c5 c6 c7, cs = [c0, c1, c2, c3, c4, c5, c6, c7] := by
  match cs, h with
  | [c0, c1, c2, c3, c4, c5, c6, c7], _ => exact ⟨c0, c1, c2, c3, c4, c5, c6, c7, rfl⟩
theorem list2' {α : Type} {cs : List α} (h : cs.length = 2) : ∃ c0 c1, cs = [c0, c1] := by
  match cs, h with
  | [c0, c1], _ => exact ⟨c0, c1, rfl⟩
set_option maxRecDepth 100000 in
theorem open_setF {f F : Nat} (hF : f ≤ F) {cs : List Value} {x : DataW H × List MemPlace} (h : DataW.trod enc Tryz.prog w base spare held f 59 cs = some x) (hw : Lt 59 x.1) :
    ∃ (z : Sx (gf F)) (a : Option Addr) (c : Nat), cs = (KS (gf F)).cs z a c ∧ (KS (gf F)).dp Any w z a c := by
  obtain ⟨xs, m, hm, rfl, hlen, hxl, hf⟩ := DataW.trod_struct Tryz.underlying59 h
  rw [cellsSx] at hlen
  obtain ⟨c0, c1, c2, c3, c4, c5, c6, c7, rfl⟩ := list8 hlen
  obtain ⟨x0, x1, rfl⟩ := list2' (hxl.trans rfl)
  have h0 : DataW.trod enc Tryz.prog w base spare held m 9 [c0] = some x0 := take_as (cs := [c0, c1, c2, c3, c4, c5, c6, c7]) (hf 0 _ rfl) cellsS
  have h1 : DataW.trod enc Tryz.prog w base spare held m 51 [c1, c2, c3, c4, c5, c6, c7] = some x1 := take_as (cs := [c1, c2, c3, c4, c5, c6, c7]) (hf 1 _ rfl) cellsE
  obtain ⟨s, e0, _, _⟩ := DataW.trod_string Tryz.underlying9 h0
  have hw1 : Lt 51 x1.1 := fun n hn => hw n (by
    simp only [DataW.weights, Tryz.underlying59]
    exact DataW.weights_mem_each (j := 1) rfl rfl n hn)
  obtain ⟨y, a, c, e1, hd⟩ := open_exF (F := F) (by omega) h1 hw1
  simp only [List.cons.injEq, and_true] at e0
  subst e0
  rw [e1]
  exact ⟨⟨s, y⟩, a, c, rfl, hd⟩
theorem open_setsF {f F : Nat} (hF : f ≤ F) {cs : List Value} {x : DataW H × List MemPlace} (h : DataW.trod enc Tryz.prog w base spare held f 24 cs = some x) (hw : Lt 24 x.1) :
    ∃ (A : Option Addr) (c : Nat) (l : List (Sx (gf F))), cs = [.slice A l.length c] ∧ RdK (KS (gf F)) Any w A c l :=
  open_rd (KS (gf F)) Tryz.underlying24 cellsSx bytesSx h hw (fun m hm cs' y hy hwy => open_setF (by omega) hy hwy)
set_option maxRecDepth 100000 in
theorem open_colF {f : Nat} {cs : List Value} {x : DataW H × List MemPlace} (h : DataW.trod enc Tryz.prog w base spare held f 82 cs = some x) : ∃ (z : Cl) (a : Option Addr) (c : Nat), cs = KC.cs z a c ∧ KC.dp Any w z a c := by
  obtain ⟨xs, m, hm, rfl, hlen, hxl, hf⟩ := DataW.trod_struct Tryz.underlying82 h
  rw [cellsCl] at hlen
  obtain ⟨c0, c1, c2, rfl⟩ := list3 hlen
  obtain ⟨x0, x1, x2, rfl⟩ := list3 (hxl.trans rfl)
  have h0 : DataW.trod enc Tryz.prog w base spare held m 9 [c0] = some x0 := take_as (cs := [c0, c1, c2]) (hf 0 _ rfl) cellsS
  have h1 : DataW.trod enc Tryz.prog w base spare held m 3 [c1] = some x1 := take_as (cs := [c1, c2]) (hf 1 _ rfl) cellsI
  have h2 : DataW.trod enc Tryz.prog w base spare held m 4 [c2] = some x2 := take_as (cs := [c2]) (hf 2 _ rfl) cellsB
  obtain ⟨s, e0, _, _⟩ := DataW.trod_string Tryz.underlying9 h0
  obtain ⟨k, e1, _, _⟩ := DataW.trod_int Tryz.underlying3 h1
  obtain ⟨b, e2, _⟩ := DataW.trod_bool Tryz.underlying4 h2
  simp only [List.cons.injEq, and_true] at e0 e1 e2
  subst e0 e1 e2
  exact ⟨⟨s, k, b⟩, none, 0, rfl, trivial⟩
theorem open_colsF {f : Nat} {cs : List Value} {x : DataW H × List MemPlace} (h : DataW.trod enc Tryz.prog w base spare held f 22 cs = some x) (hw : Lt 22 x.1) :
    ∃ (A : Option Addr) (c : Nat) (l : List Cl), cs = [.slice A l.length c] ∧ RdK KC Any w A c l :=
  open_rd KC Tryz.underlying22 cellsCl bytesCl h hw (fun m hm cs' y hy hwy => open_colF hy)
set_option maxRecDepth 100000 in
theorem open_ordF {f : Nat} {cs : List Value} {x : DataW H × List MemPlace} (h : DataW.trod enc Tryz.prog w base spare held f 85 cs = some x) : ∃ (z : Od) (a : Option Addr) (c : Nat), cs = KO.cs z a c ∧ KO.dp Any w z a c := by
  obtain ⟨xs, m, hm, rfl, hlen, hxl, hf⟩ := DataW.trod_struct Tryz.underlying85 h
  rw [cellsOd] at hlen
  obtain ⟨c0, c1, rfl⟩ := list2' hlen
  obtain ⟨x0, x1, rfl⟩ := list2' (hxl.trans rfl)
  have h0 : DataW.trod enc Tryz.prog w base spare held m 3 [c0] = some x0 := take_as (cs := [c0, c1]) (hf 0 _ rfl) cellsI
  have h1 : DataW.trod enc Tryz.prog w base spare held m 4 [c1] = some x1 := take_as (cs := [c1]) (hf 1 _ rfl) cellsB
  obtain ⟨k, e0, _, _⟩ := DataW.trod_int Tryz.underlying3 h0
  obtain ⟨b, e1, _⟩ := DataW.trod_bool Tryz.underlying4 h1
  simp only [List.cons.injEq, and_true] at e0 e1
  subst e0 e1
  exact ⟨⟨k, b⟩, none, 0, rfl, trivial⟩
theorem open_ordsF {f : Nat} {cs : List Value} {x : DataW H × List MemPlace} (h : DataW.trod enc Tryz.prog w base spare held f 26 cs = some x) (hw : Lt 26 x.1) :
    ∃ (A : Option Addr) (c : Nat) (l : List Od), cs = [.slice A l.length c] ∧ RdK KO Any w A c l :=
  open_rd KO Tryz.underlying26 cellsOd bytesOd h hw (fun m hm cs' y hy hwy => open_ordF hy)
theorem list14 {α : Type} {cs : List α} (h : cs.length = 14) : ∃ c0 c1 c2 c3 c4 c5 c6 c7 c8 c9 c10 c11 c12 c13, cs = [c0, c1, c2, c3, c4, c5, c6, c7, c8, c9, c10, c11, c12, c13] := by
  match cs, h with
  | [c0, c1, c2, c3, c4, c5, c6, c7, c8, c9, c10, c11, c12, c13], _ => exact ⟨c0, c1, c2, c3, c4, c5, c6, c7, c8, c9, c10, c11, c12, c13, rfl⟩

set_option maxRecDepth 100000 in
set_option maxHeartbeats 4000000 in
theorem open_stF {f F : Nat} (hF : f ≤ F) {cs : List Value} {x : DataW H × List MemPlace} (h : DataW.trod enc Tryz.prog w base spare held f 28 cs = some x) (hw : Lt 28 x.1) :
    ∃ (z : St (gf F)) (hs : Hs), cs = (z.cs hs).toList ∧ RdSt Any w z hs := by
  obtain ⟨xs, m, hm, rfl, hlen, hxl, hf⟩ := DataW.trod_struct Tryz.underlying28 h
  rw [cellsSt14] at hlen
  obtain ⟨c0, c1, c2, c3, c4, c5, c6, c7, c8, c9, c10, c11, c12, c13, rfl⟩ := list14 hlen
  obtain ⟨x0, x1, x2, x3, x4, x5, x6, x7, x8, x9, x10, x11, x12, x13, rfl⟩ := list14 (hxl.trans rfl)
  clear hlen hxl h
  have h0 : DataW.trod enc Tryz.prog w base spare held m 3 [c0] = some x0 := take_as (cs := [c0, c1, c2, c3, c4, c5, c6, c7, c8, c9, c10, c11, c12, c13]) (hf 0 _ rfl) cellsI
  have h1 : DataW.trod enc Tryz.prog w base spare held m 9 [c1] = some x1 := take_as (cs := [c1, c2, c3, c4, c5, c6, c7, c8, c9, c10, c11, c12, c13]) (hf 1 _ rfl) cellsS
  have h2 : DataW.trod enc Tryz.prog w base spare held m 22 [c2] = some x2 := take_as (cs := [c2, c3, c4, c5, c6, c7, c8, c9, c10, c11, c12, c13]) (hf 2 _ rfl) cellsLC
  have h3 : DataW.trod enc Tryz.prog w base spare held m 9 [c3] = some x3 := take_as (cs := [c3, c4, c5, c6, c7, c8, c9, c10, c11, c12, c13]) (hf 3 _ rfl) cellsS
  have h4 : DataW.trod enc Tryz.prog w base spare held m 9 [c4] = some x4 := take_as (cs := [c4, c5, c6, c7, c8, c9, c10, c11, c12, c13]) (hf 4 _ rfl) cellsS
  have h5 : DataW.trod enc Tryz.prog w base spare held m 23 [c5] = some x5 := take_as (cs := [c5, c6, c7, c8, c9, c10, c11, c12, c13]) (hf 5 _ rfl) cellsR
  have h6 : DataW.trod enc Tryz.prog w base spare held m 24 [c6] = some x6 := take_as (cs := [c6, c7, c8, c9, c10, c11, c12, c13]) (hf 6 _ rfl) cellsLS
  have h7 : DataW.trod enc Tryz.prog w base spare held m 25 [c7] = some x7 := take_as (cs := [c7, c8, c9, c10, c11, c12, c13]) (hf 7 _ rfl) cellsL
  have h8 : DataW.trod enc Tryz.prog w base spare held m 9 [c8] = some x8 := take_as (cs := [c8, c9, c10, c11, c12, c13]) (hf 8 _ rfl) cellsS
  have h9 : DataW.trod enc Tryz.prog w base spare held m 25 [c9] = some x9 := take_as (cs := [c9, c10, c11, c12, c13]) (hf 9 _ rfl) cellsL
  have h10 : DataW.trod enc Tryz.prog w base spare held m 25 [c10] = some x10 := take_as (cs := [c10, c11, c12, c13]) (hf 10 _ rfl) cellsL
  have h11 : DataW.trod enc Tryz.prog w base spare held m 25 [c11] = some x11 := take_as (cs := [c11, c12, c13]) (hf 11 _ rfl) cellsL
  have h12 : DataW.trod enc Tryz.prog w base spare held m 26 [c12] = some x12 := take_as (cs := [c12, c13]) (hf 12 _ rfl) cellsLO
  have h13 : DataW.trod enc Tryz.prog w base spare held m 3 [c13] = some x13 := take_as (cs := [c13]) (hf 13 _ rfl) cellsI
  have hwj : ∀ (j : Nat) (t : TypeId) (d : DataW H × List MemPlace), ([x0, x1, x2, x3, x4, x5, x6, x7, x8, x9, x10, x11, x12, x13] : List (DataW H × List MemPlace))[j]? = some d → ((Tryz.prog.fieldsOf 28).toList.map (·.type))[j]? = some t → Lt t d.1 := fun j t d hd ht n hn => hw n (by
    simp only [DataW.weights, Tryz.underlying28]
    refine DataW.weights_mem_each (j := j) ?_ ?_ n hn
    · exact ht
    · rw [List.getElem?_map, hd]; rfl)
  clear hf hw
  obtain ⟨v0, e0, _, _⟩ := DataW.trod_int Tryz.underlying3 h0
  obtain ⟨v1, e1, _, _⟩ := DataW.trod_string Tryz.underlying9 h1
  obtain ⟨A2, k2, v2, e2, r2⟩ := open_colsF h2 (hwj 2 22 x2 rfl rfl)
  obtain ⟨v3, e3, _, _⟩ := DataW.trod_string Tryz.underlying9 h3
  obtain ⟨v4, e4, _, _⟩ := DataW.trod_string Tryz.underlying9 h4
  obtain ⟨A5, k5, v5, e5, r5⟩ := open_rowsF (F := F) (by omega) h5 (hwj 5 23 x5 rfl rfl)
  obtain ⟨A6, k6, v6, e6, r6⟩ := open_setsF (F := F) (by omega) h6 (hwj 6 24 x6 rfl rfl)
  obtain ⟨A7, k7, v7, e7, r7⟩ := open_exprsF (F := F) (by omega) h7 (hwj 7 25 x7 rfl rfl)
  obtain ⟨v8, e8, _, _⟩ := DataW.trod_string Tryz.underlying9 h8
  obtain ⟨A9, k9, v9, e9, r9⟩ := open_exprsF (F := F) (by omega) h9 (hwj 9 25 x9 rfl rfl)
  obtain ⟨A10, k10, v10, e10, r10⟩ := open_exprsF (F := F) (by omega) h10 (hwj 10 25 x10 rfl rfl)
  obtain ⟨A11, k11, v11, e11, r11⟩ := open_exprsF (F := F) (by omega) h11 (hwj 11 25 x11 rfl rfl)
  obtain ⟨A12, k12, v12, e12, r12⟩ := open_ordsF h12 (hwj 12 26 x12 rfl rfl)
  obtain ⟨v13, e13, _, _⟩ := DataW.trod_int Tryz.underlying3 h13
  simp only [List.cons.injEq, and_true] at e0 e1 e2 e3 e4 e5 e6 e7 e8 e9 e10 e11 e12 e13
  subst e0 e1 e2 e3 e4 e5 e6 e7 e8 e9 e10 e11 e12 e13
  exact ⟨⟨v0, v1, v2, v3, v4, v5, v6, v7, v8, v9, v10, v11, v12, v13⟩, ⟨⟨A2, k2⟩, ⟨A5, k5⟩, ⟨A6, k6⟩, ⟨A7, k7⟩, ⟨A9, k9⟩, ⟨A10, k10⟩, ⟨A11, k11⟩, ⟨A12, k12⟩⟩, rfl, ⟨r2, r5, r6, r7, r9, r10, r11, r12⟩⟩
set_option maxRecDepth 100000 in
theorem open_stmt {r : Reach} {b0 : Nat} {v : Value} {d : DataW H} {q : List MemPlace} (hv : Value.okWide Tryz.prog w r b0 28 v) (h : DataW.Trod enc Tryz.prog w base spare held 28 v d q) (hw : Lt 28 d) :
    ∃ f0 : Nat, ∀ F, f0 ≤ F → ∃ (z : St (gf F)) (hs : Hs), v = z.val hs ∧ RdSt Any w z hs := by
  obtain ⟨cs, rfl, hsz⟩ := okWide_struct Tryz.underlying28 hv
  obtain ⟨fuel, hf⟩ := h
  refine ⟨fuel, fun F hF => ?_⟩
  obtain ⟨z, hs, e, hr⟩ := open_stF hF hf hw
  refine ⟨z, hs, ?_, hr⟩
  have e2 : cs.toList = (z.cs hs).toList := by simpa [Value.cells] using e
  have e3 : cs = z.cs hs := Array.toList_inj.1 e2
  rw [e3]
end
end Go.Proofs.YtnbgnofbeklmkaaGreatDoor
/- How the reference prints lists of expressions, and parts of statements: the walks of list, with, columns. Conditions: expressions that may be, read in memory; short texts. -/
namespace Go.Proofs.YtnbgnofbeklmkaaGreatDoor
open Go.RowKit
set_option linter.unusedSimpArgs false
set_option linter.unusedVariables false

theorem join_next (sep : List UInt8) {α : Type} (f : α → List UInt8) (l : List α) (j : Nat) (y : α) (h : l[j]? = some y) : joinL sep ((l.take (j + 1)).map f) = joinL sep ((l.take j).map f) ++ ((if j = 0 then [] else sep) ++ f y) := by
  have hj : j < l.length := (List.getElem?_eq_some_iff.1 h).1
  rw [List.take_add_one, h]
  simp only [Option.toList_some, List.map_append, List.map_cons, List.map_nil]
  rw [joinL_snoc]
  have e : ((l.take j).map f = []) = (j = 0) := by
    rw [eq_iff_iff]
    simp only [List.map_eq_nil_iff, List.take_eq_nil_iff]
    constructor
    · rintro (h | h)
      · exact h
      · rw [h] at hj; cases hj
    · exact fun h => .inl h
  simp only [e]
theorem join_len (sep : List UInt8) {α : Type} (f : α → List UInt8) (M : Nat) {l : List α} (h : ∀ y ∈ l, (f y).length ≤ M) (j : Nat) : (joinL sep ((l.take j).map f)).length ≤ l.length * (M + sep.length) := by
  rw [List.map_take]
  refine Nat.le_trans (joinL_take sep (l.map f) j) (Nat.le_trans (joinL_len sep (l.map f)) ?_)
  have h1 := sum_le (f := f) h
  rw [List.length_map]
  have : l.length * (M + sep.length) = l.length * M + l.length * sep.length := Nat.mul_add _ _ _
  omega

set_option maxHeartbeats 4000000 in
set_option maxRecDepth 100000 in
theorem rlist_any {n : Nat} (l : List (Ar n)) (hl : ∀ y ∈ l, okP n y = true) (hm : ∀ y ∈ l, (prA n y).length ≤ 9600) (a : Option Addr) (c : Nat) (w : World) (hr : RdE w n a c l) (hle : l.length ≤ 16) :
    Calls Tryz.prog 35 #[.slice a l.length c] w fun e w' => e = .returned (.string ⟨(joinL wcm (l.map (prA n))).toArray⟩) ∧ Below w.heap.size w w' := by
  have HR := Lib.hid hr
  have HC := Lib.hid fun (y : Ar n) (hy : y ∈ l) (a : Option Addr) (c : Nat) (w' : World) (h : RdE w' (n - 1) a c y.e.l) => rprinted_any n y (hl y hy) a c w' h (hm y hy)
  have HJ := Lib.hid (fun j => join_len wcm (prA n) 9600 hm j)
  have HM := Lib.hid hm
  clear hr hl hm
  go_enter Tryz.func35, Tryz.ntmps35
  go_wp2_with fail
  go_loopw [3, 4] (fun s i wr => ∃ (y : ByteArray) (j : Nat), s = .string y ∧ i = .int .i64 j ∧ j ≤ l.length ∧ y.data.toList = joinL wcm ((l.take j).map (prA n)) ∧ Below w.heap.size w wr) (fun _ i _ => l.length - (intOf i).toNat)
  case atStart => exact ⟨⟨#[]⟩, 0, rfl, rfl, Nat.zero_le _, rfl, Below.refl _ _⟩
  case round =>
    obtain ⟨y, j, rfl, rfl, hj, hy, hb⟩ := hrel
    have hyz : y.size ≤ 153632 := by
      have h1 := congrArg List.length hy
      rw [bsz] at h1
      have h2 := HJ.out j
      have h3 : wcm.length = 2 := rfl
      rw [h3] at h2
      have h4 : l.length * (9600 + 2) ≤ 16 * (9600 + 2) := Nat.mul_le_mul_right _ hle
      omega
    have HY := Lib.hid hy
    have HB := Lib.hid hb
    clear hy hb
    rcases Nat.lt_or_ge j l.length with hlt | hge
    · obtain ⟨ad, a1, k1, rfl, ⟨p0, p1, p2, p3, p4, p5, p6⟩, r1⟩ := (RdK.below (KE_ok n) HR.out HB.out).at_ (j := j) hlt
      have HZ := Lib.hid (HC.out l[j] (List.getElem_mem hlt) a1 k1 wr r1)
      have HS := Lib.hid (join_next wcm (prA n) l j l[j] (List.getElem?_eq_getElem hlt))
      have hzl : (prA n l[j]).length ≤ 9600 := HM.out _ (List.getElem_mem hlt)
      clear r1 HC HM HJ
      generalize l[j] = z at *
      unfold ExN.val at HZ
      generalize prA n z = T at *
      rcases Nat.eq_zero_or_pos j with h0 | h0
      · have hd : decide ((0 : Int) < (j : Int)) = false := by simp; omega
        have hd2 : decide (0 < j) = false := by simp; omega
        have hj0 : j ≤ 0 := by omega
        have H0 := Lib.hid h0
        clear h0
        go_wp2_with (go_at_call 36; refine HZ.out.mono ?_; rintro e w1 ⟨rfl, hb⟩; have HB1 := Lib.hid (below_call hb HB.out HB.out.size); clear hb p0 p1 p2 p3 p4 p5 p6)
        go_roundw
        case rel => exact ⟨_, j + 1, rfl, by go_num, hlt, by rw [HS.out, if_pos H0.out, alist, HY.out]; simp, HB1.out⟩
        case measure => simp [intOf]; omega
      · have hd : decide ((0 : Int) < (j : Int)) = true := by simp; omega
        have hd2 : decide (0 < j) = true := by simp; omega
        have H0 := Lib.hid (show ¬ j = 0 by omega)
        go_wp2_with (go_at_call 36; refine HZ.out.mono ?_; rintro e w1 ⟨rfl, hb⟩; have HB1 := Lib.hid (below_call hb HB.out HB.out.size); clear hb p0 p1 p2 p3 p4 p5 p6)
        go_roundw
        case rel => exact ⟨_, j + 1, rfl, by go_num, hlt, by rw [HS.out, if_neg H0.out, alist, alist, HY.out]; simp [wcm], HB1.out⟩
        case measure => simp [intOf]; omega
    · have HE : Hid (l.take j = l) := Lib.hid (List.take_of_length_le (by omega))
      go_wp2_with fail
      go_ret
      exact ⟨ret_str (ba_ext (by rw [HY.out, HE.out])), HB.out⟩

set_option maxHeartbeats 4000000 in
set_option maxRecDepth 100000 in
theorem rwith_any {n : Nat} (s : ByteArray) (l : List (Ar n)) (hs : s.size ≤ 16) (hl : ∀ y ∈ l, okP n y = true) (hm : ∀ y ∈ l, (prA n y).length ≤ 9600) (a : Option Addr) (c : Nat) (w : World) (hr : RdE w n a c l) (hle : l.length ≤ 1) :
    Calls Tryz.prog 37 #[.string s, .slice a l.length c] w fun e w' => e = .returned (.string ⟨(partL (32 :: (s.data.toList ++ [32])) (prA n) l).toArray⟩) ∧ Below w.heap.size w w' := by
  rcases Nat.eq_zero_or_pos l.length with h0 | h0
  · obtain rfl : l = [] := List.eq_nil_of_length_eq_zero h0
    clear hl hm hr h0 hle
    have hd : (((([] : List (Ar n)).length : Nat) : Int) == 0) = true := rfl
    go_enter Tryz.func37, Tryz.ntmps37
    go_wp2_with fail
    go_ret
    exact ⟨ret_str (ba_ext (by simp [partL])), Below.refl _ _⟩
  · have hd : ((l.length : Int) == 0) = false := by rw [beq_eq_false_iff_ne]; omega
    have hd2 : (l.length == 0) = false := by rw [beq_eq_false_iff_ne]; omega
    obtain ⟨ad, a1, k1, rfl, ⟨p0, p1, p2, p3, p4, p5, p6⟩, r1⟩ := hr.at_ (j := 0) h0
    have HZ := Lib.hid (rprinted_any n l[0] (hl _ (List.getElem_mem h0)) a1 k1 w r1 (hm _ (List.getElem_mem h0)))
    have hzl : (prA n l[0]).length ≤ 9600 := hm _ (List.getElem_mem h0)
    have HL : Hid (partL (32 :: (s.data.toList ++ [32])) (prA n) l = 32 :: (s.data.toList ++ [32]) ++ prA n l[0]) := Lib.hid (by
      obtain ⟨z, rfl⟩ : ∃ z, l = [z] := by
        match l, h0, hle with
        | [z], _, _ => exact ⟨z, rfl⟩
      simp [partL, joinL])
    clear r1 hl hm hr hle
    generalize l[0] = z at *
    unfold ExN.val at HZ
    generalize prA n z = T at *
    have ea : ad.add 0 = ad := rfl
    simp only [Nat.zero_mul, ea] at p0 p1 p2 p3 p4 p5 p6
    clear ea
    go_enter Tryz.func37, Tryz.ntmps37
    go_wp2_with (go_at_call 36; refine HZ.out.mono ?_; rintro e w1 ⟨rfl, hb⟩; have HB1 := Lib.hid hb; clear hb p0 p1 p2 p3 p4 p5 p6)
    go_ret
    exact ⟨ret_str (ba_ext (by rw [HL.out, alist, alist, alist]; simp)), HB1.out⟩
end Go.Proofs.YtnbgnofbeklmkaaGreatDoor
/- How the reference prints columns: the walk of columns. Conditions: columns that may be, read in memory. -/
namespace Go.Proofs.YtnbgnofbeklmkaaGreatDoor
open Go.RowKit
set_option linter.unusedSimpArgs false
set_option linter.unusedVariables false

theorem colsT_next (l : List Cl) (j : Nat) (y : Cl) (h : l[j]? = some y) : colsT (l.take (j + 1)) = colsT (l.take j) ++ (colT y ++ wcm) := by
  rw [List.take_add_one, h]
  simp [colsT]
theorem name_size {s : ByteArray} (h : nameB s = true) : s.size ≤ 16 := nameB_len h
theorem colT_le {y : Cl} (h : colB y = true) : (colT y).length ≤ 30 := by
  unfold colB at h
  rw [Bool.and_eq_true] at h
  have h1 := name_size h.1
  have h2 : (kindL y.k).length ≤ 4 := by unfold kindL; split <;> (try split) <;> decide
  have h3 : (if y.nn = true then wnn else []).length ≤ 9 := by split <;> decide
  unfold colT
  rw [List.length_append, List.length_cons, List.length_append, bsz]
  omega
theorem colsT_le : ∀ {l : List Cl}, (∀ y ∈ l, colB y = true) → ∀ j, (colsT (l.take j)).length ≤ l.length * 32
  | [], _, j => by simp [colsT]
  | y :: l, h, 0 => by simp [colsT]
  | y :: l, h, j + 1 => by
    have h1 := colsT_le (l := l) (fun z hz => h z (List.mem_cons_of_mem _ hz)) j
    have h2 := colT_le (h y (List.mem_cons_self ..))
    have e : colsT ((y :: l).take (j + 1)) = (colT y ++ wcm) ++ colsT (l.take j) := by simp [colsT]
    have e2 : wcm.length = 2 := rfl
    rw [e, List.length_append, List.length_append, e2, List.length_cons]
    omega

set_option maxHeartbeats 8000000 in
set_option maxRecDepth 100000 in
theorem rcolumns_any {n : Nat} (x : St n) (h : Hs) (hc : ∀ y ∈ x.cols, colB y = true) (w : World) (hr : RdSt Any w x h) (hle : x.cols.length ≤ 8) :
    Calls Tryz.prog 34 #[x.val h] w fun e w' => e = .returned (.string ⟨(colsT x.cols).toArray⟩) ∧ Below w.heap.size w w' := by
  have HR := Lib.hid hr.C
  have HC := Lib.hid hc
  have HL := Lib.hid (fun j => colsT_le hc j)
  clear hr hc
  obtain ⟨kind, tb, cols, key, ix, rows, sets, items, jn, on, wh, gr, ord, lim⟩ := x
  obtain ⟨⟨aC, ac1⟩, ⟨aR, ac2⟩, ⟨aS, ac3⟩, ⟨aI, ac4⟩, ⟨aO, ac5⟩, ⟨aW, ac6⟩, ⟨aG, ac7⟩, ⟨aD, ac8⟩⟩ := h
  unfold St.val St.cs
  dsimp only at HR HC HL hle ⊢
  go_enter Tryz.func34, Tryz.ntmps34
  go_wp2_with fail
  have hX := heap_alloc_new w (.cells #[.int .i64 kind, .string tb, .slice aC cols.length ac1, .string key, .string ix, .slice aR rows.length ac2, .slice aS sets.length ac3, .slice aI items.length ac4, .string jn, .slice aO on.length ac5, .slice aW wh.length ac6, .slice aG gr.length ac7, .slice aD ord.length ac8, .int .i64 lim] 28)
  have hB := below1 w (.cells #[.int .i64 kind, .string tb, .slice aC cols.length ac1, .string key, .string ix, .slice aR rows.length ac2, .slice aS sets.length ac3, .slice aI items.length ac4, .string jn, .slice aO on.length ac5, .slice aW wh.length ac6, .slice aG gr.length ac7, .slice aD ord.length ac8, .int .i64 lim] 28)
  generalize (w.alloc (.cells #[.int .i64 kind, .string tb, .slice aC cols.length ac1, .string key, .string ix, .slice aR rows.length ac2, .slice aS sets.length ac3, .slice aI items.length ac4, .string jn, .slice aO on.length ac5, .slice aW wh.length ac6, .slice aG gr.length ac7, .slice aD ord.length ac8, .int .i64 lim] 28)) = W at hX hB ⊢
  go_loopw [3, 4] (fun s i wr => ∃ (y : ByteArray) (j : Nat), s = .string y ∧ i = .int .i64 j ∧ j ≤ cols.length ∧ y.data.toList = colsT (cols.take j) ∧ wr.heap[w.heap.size]? = some (.cells #[.int .i64 kind, .string tb, .slice aC cols.length ac1, .string key, .string ix, .slice aR rows.length ac2, .slice aS sets.length ac3, .slice aI items.length ac4, .string jn, .slice aO on.length ac5, .slice aW wh.length ac6, .slice aG gr.length ac7, .slice aD ord.length ac8, .int .i64 lim] 28 (0, 0)) ∧ Below w.heap.size w wr) (fun _ i _ => cols.length - (intOf i).toNat)
  case atStart => exact ⟨⟨#[]⟩, 0, rfl, rfl, Nat.zero_le _, rfl, hX, hB⟩
  case round =>
    clear hX hB
    obtain ⟨y, j, rfl, rfl, hj, hy, hX, hb⟩ := hrel
    have hyz : y.size ≤ 256 := by
      have h1 := congrArg List.length hy
      rw [bsz] at h1
      have h2 := HL.out j
      omega
    have HY := Lib.hid hy
    have HB := Lib.hid hb
    have hz : w.heap.size < wr.heap.size := heap_lt hX
    clear hy hb
    have HX := Lib.hid hX
    obtain ⟨x0, x1, x2, x3, x4, x5, x6, x7, x8, x9, x10, x11, x12, x13⟩ := cells14 hX
    clear hX
    rcases Nat.lt_or_ge j cols.length with hlt | hge
    · obtain ⟨ad, rfl, p0, p1, p2⟩ := (RdK.below KC_ok HR.out HB.out).col (j := j) hlt
      have hcb := HC.out cols[j] (List.getElem_mem hlt)
      have HS := Lib.hid (colsT_next cols j cols[j] (List.getElem?_eq_getElem hlt))
      clear HC HL
      generalize cols[j] = c at *
      obtain ⟨m, k, nn⟩ := c
      dsimp only at p0 p1 p2
      unfold colB at hcb
      rw [Bool.and_eq_true] at hcb
      obtain ⟨hn, hk⟩ := hcb
      have hms : m.size ≤ 16 := name_size hn
      have hk3 : k = 1 ∨ k = 2 ∨ k = 3 := by unfold spB at hk; simp at hk; omega
      have hq := cell_lt p0
      rw [add_block] at hq
      clear hn hk HR
      rcases hk3 with rfl | rfl | rfl
      · go_upto_region 6 with fail
        have f0 : (wr.alloc (.cells #[.string m, .int .i64 1, .bool nn] 82)).cell? ⟨wr.heap.size, 0, none⟩ = some (.string m) := (by unfold World.cell?; rw [heap_alloc_new]; rfl)
        have f1 : (wr.alloc (.cells #[.string m, .int .i64 1, .bool nn] 82)).cell? ⟨wr.heap.size, 1, none⟩ = some (.int .i64 1) := (by unfold World.cell?; rw [heap_alloc_new]; rfl)
        have f2 : (wr.alloc (.cells #[.string m, .int .i64 1, .bool nn] 82)).cell? ⟨wr.heap.size, 2, none⟩ = some (.bool nn) := (by unfold World.cell?; rw [heap_alloc_new]; rfl)
        replace HX := Lib.hid (heap_keep_alloc HX.out (.cells #[.string m, .int .i64 1, .bool nn] 82))
        replace HB := Lib.hid (HB.out.alloc HB.out.size (.cells #[.string m, .int .i64 1, .bool nn] 82))
        have hzg : wr.heap.size < (wr.alloc (.cells #[.string m, .int .i64 1, .bool nn] 82)).heap.size := by simp
        clear x0 x1 x2 x3 x4 x5 x6 x7 x8 x9 x10 x11 x12 x13 p0 p1 p2 hq hz
        generalize (wr.alloc (.cells #[.string m, .int .i64 1, .bool nn] 82)) = W1 at *
        generalize wr.heap.size = g at *
        have q1 := fun (w : World) => run_string_add_sum (P := Tryz.prog) (w := w) y m (by omega)
        have q2 := fun (w : World) => run_string_add_sum (P := Tryz.prog) (w := w) (y ++ m) ⟨#[32]⟩ (by rw [ByteArray.size_append]; have h1 : (⟨#[32]⟩ : ByteArray).size = 1 := rfl; omega)
        have q3 := fun (w : World) => run_string_add_sum (P := Tryz.prog) (w := w) (y ++ m ++ ⟨#[32]⟩) ⟨#[73, 78, 84]⟩ (by rw [ByteArray.size_append, ByteArray.size_append]; have h1 : (⟨#[32]⟩ : ByteArray).size = 1 := rfl; have h2 : (⟨#[73, 78, 84]⟩ : ByteArray).size = 3 := rfl; omega)
        refine region_anyT (fun w' => w'.cell? ⟨g, 0, none⟩ = some (.string m) ∧ w'.cell? ⟨g, 1, none⟩ = some (.int .i64 1)) [2, 5, 7, 8, 9, 10] (by kernel_rfl) ⟨f0, f1⟩ ?_
        intro hcl hS
        refine anyT_free (i := 0) (v := ?v0k1) rfl (by kernel_rfl) (by kernel_rfl) (by kernel_rfl) (by kernel_rfl) (fun _ _ _ h => h) (Or.inl ⟨by rfl, ?hy0k1⟩) hcl ?rest0k1
        case hy0k1 => intro w' _; go_simp; with_reducible rfl
        clear hcl
        intro hcl
        try simp only [Act.put, List.setIfInBounds_toArray, List.set_cons_zero, List.set_cons_succ]
        refine anyT_free (i := 1) (v := ?v1k1) rfl (by kernel_rfl) (by kernel_rfl) (by kernel_rfl) (by kernel_rfl) (fun _ _ _ h => h) (Or.inl ⟨by rfl, ?hy1k1⟩) hcl ?rest1k1
        case hy1k1 => intro w' _; go_simp; with_reducible rfl
        clear hcl
        intro hcl
        try simp only [Act.put, List.setIfInBounds_toArray, List.set_cons_zero, List.set_cons_succ]
        refine anyT_free (i := 6) (v := ?v6k1) rfl (by kernel_rfl) (by kernel_rfl) (by kernel_rfl) (by kernel_rfl) (fun _ _ _ h => h) (Or.inl ⟨by rfl, ?hy6k1⟩) hcl ?rest6k1
        case hy6k1 => intro w' _; go_simp; with_reducible rfl
        clear hcl
        intro hcl
        try simp only [Act.put, List.setIfInBounds_toArray, List.set_cons_zero, List.set_cons_succ]
        refine anyT_take (i := 2) (v := .string m) rfl (by kernel_rfl) (by kernel_rfl) (by kernel_rfl) (by kernel_rfl) (fun _ _ _ h => h) (Or.inl ⟨by rfl, ?hy2k1⟩) hS hcl ?rest2k1
        case hy2k1 => intro w' hSw; obtain ⟨g0, g1⟩ := hSw; go_simp; try rfl
        clear hcl
        intro hcl
        try simp only [Act.put, List.setIfInBounds_toArray, List.set_cons_zero, List.set_cons_succ]
        refine anyT_free (i := 3) (v := ?v3k1) rfl (by kernel_rfl) (by kernel_rfl) (by kernel_rfl) (by kernel_rfl) (fun _ _ _ h => h) (Or.inl ⟨by rfl, ?hy3k1⟩) hcl ?rest3k1
        case hy3k1 => intro w' _; go_simp; with_reducible rfl
        clear hcl
        intro hcl
        try simp only [Act.put, List.setIfInBounds_toArray, List.set_cons_zero, List.set_cons_succ]
        refine anyT_free (i := 4) (v := ?v4k1) rfl (by kernel_rfl) (by kernel_rfl) (by kernel_rfl) (by kernel_rfl) (fun _ _ _ h => h) (Or.inl ⟨by rfl, ?hy4k1⟩) hcl ?rest4k1
        case hy4k1 => intro w' _; go_simp; with_reducible rfl
        clear hcl
        intro hcl
        try simp only [Act.put, List.setIfInBounds_toArray, List.set_cons_zero, List.set_cons_succ]
        refine anyT_take (i := 7) (v := .int .i64 1) rfl (by kernel_rfl) (by kernel_rfl) (by kernel_rfl) (by kernel_rfl) (fun _ _ _ h => h) (Or.inl ⟨by rfl, ?hy7k1⟩) hS hcl ?rest7k1
        case hy7k1 => intro w' hSw; obtain ⟨g0, g1⟩ := hSw; go_simp; try rfl
        clear hcl
        intro hcl
        try simp only [Act.put, List.setIfInBounds_toArray, List.set_cons_zero, List.set_cons_succ]
        refine anyT_take (i := 8) (v := .int .i64 0) rfl (by kernel_rfl) (by kernel_rfl) (by kernel_rfl) (by kernel_rfl) (fun _ _ _ h => h) (Or.inl ⟨by rfl, ?hy8k1⟩) hS hcl ?rest8k1
        case hy8k1 => intro w' hSw; obtain ⟨g0, g1⟩ := hSw; go_simp; try rfl
        clear hcl
        intro hcl
        try simp only [Act.put, List.setIfInBounds_toArray, List.set_cons_zero, List.set_cons_succ]
        have t0 := (Below.cell (below1 W1.drew (.cells #[.string ⟨#[73, 78, 84]⟩, .string ⟨#[66, 79, 79, 76]⟩, .string ⟨#[84, 69, 88, 84]⟩] 9)) (p := ⟨g, 0, none⟩) hzg).trans f0
        have t1 := (Below.cell (below1 W1.drew (.cells #[.string ⟨#[73, 78, 84]⟩, .string ⟨#[66, 79, 79, 76]⟩, .string ⟨#[84, 69, 88, 84]⟩] 9)) (p := ⟨g, 1, none⟩) hzg).trans f1
        refine anyT_step (k := 5) rfl (by kernel_rfl) hcl ?_
        intro K hK
        clear hcl
        go_simp
        refine hK.out _ _ ⟨t0, t1⟩ (fun hS hcl => ?_)
        clear hK K
        try simp only [Act.put, List.setIfInBounds_toArray, List.set_cons_zero, List.set_cons_succ]
        refine anyT_step (k := 9) rfl (by kernel_rfl) hcl ?_
        intro K hK
        clear hcl
        go_simp
        refine hK.out _ _ ⟨t0, t1⟩ (fun hS hcl => ?_)
        clear hK K
        try simp only [Act.put, List.setIfInBounds_toArray, List.set_cons_zero, List.set_cons_succ]
        refine anyT_step (k := 10) rfl (by kernel_rfl) hcl ?_
        intro K hK
        clear hcl
        go_simp
        refine hK.out _ _ ⟨t0, t1⟩ (fun hS hcl => ?_)
        clear hK K
        try simp only [Act.put, List.setIfInBounds_toArray, List.set_cons_zero, List.set_cons_succ]
        clear t0 t1
        refine anyT_free (i := 11) (v := ?v11k1) rfl (by kernel_rfl) (by kernel_rfl) (by kernel_rfl) (by kernel_rfl) (fun _ _ _ h => h) (Or.inl ⟨by rfl, ?hy11k1⟩) hcl ?rest11k1
        case hy11k1 => intro w' _; go_simp; with_reducible rfl
        clear hcl
        intro hcl
        try simp only [Act.put, List.setIfInBounds_toArray, List.set_cons_zero, List.set_cons_succ]
        refine anyT_free (i := 12) (v := ?v12k1) rfl (by kernel_rfl) (by kernel_rfl) (by kernel_rfl) (by kernel_rfl) (fun _ _ _ h => h) (Or.inl ⟨by rfl, ?hy12k1⟩) hcl ?rest12k1
        case hy12k1 => intro w' _; go_simp; with_reducible rfl
        clear hcl
        intro hcl
        try simp only [Act.put, List.setIfInBounds_toArray, List.set_cons_zero, List.set_cons_succ]
        refine anyT_done (by kernel_rfl) ?_ _
        go_simp
        have HX2 := Lib.hid (heap_keep_alloc HX.out (.cells #[.string ⟨#[73, 78, 84]⟩, .string ⟨#[66, 79, 79, 76]⟩, .string ⟨#[84, 69, 88, 84]⟩] 9))
        have HB2 := Lib.hid (HB.out.alloc HB.out.size (.cells #[.string ⟨#[73, 78, 84]⟩, .string ⟨#[66, 79, 79, 76]⟩, .string ⟨#[84, 69, 88, 84]⟩] 9)).drew
        clear q1 q2 q3
        cases nn
        · go_wp2_with fail
          go_roundw
          case rel => exact ⟨_, j + 1, rfl, by go_num, hlt, by rw [HS.out, ← HY.out]; simp [colT, kindL, wKI, wKB, wKT, wnn, wcm, alist], HX2.out, HB2.out⟩
          case measure => simp [intOf]; omega
        · go_wp2_with fail
          go_roundw
          case rel => exact ⟨_, j + 1, rfl, by go_num, hlt, by rw [HS.out, ← HY.out]; simp [colT, kindL, wKI, wKB, wKT, wnn, wcm, alist], HX2.out, HB2.out⟩
          case measure => simp [intOf]; omega
      · go_upto_region 6 with fail
        have f0 : (wr.alloc (.cells #[.string m, .int .i64 2, .bool nn] 82)).cell? ⟨wr.heap.size, 0, none⟩ = some (.string m) := (by unfold World.cell?; rw [heap_alloc_new]; rfl)
        have f1 : (wr.alloc (.cells #[.string m, .int .i64 2, .bool nn] 82)).cell? ⟨wr.heap.size, 1, none⟩ = some (.int .i64 2) := (by unfold World.cell?; rw [heap_alloc_new]; rfl)
        have f2 : (wr.alloc (.cells #[.string m, .int .i64 2, .bool nn] 82)).cell? ⟨wr.heap.size, 2, none⟩ = some (.bool nn) := (by unfold World.cell?; rw [heap_alloc_new]; rfl)
        replace HX := Lib.hid (heap_keep_alloc HX.out (.cells #[.string m, .int .i64 2, .bool nn] 82))
        replace HB := Lib.hid (HB.out.alloc HB.out.size (.cells #[.string m, .int .i64 2, .bool nn] 82))
        have hzg : wr.heap.size < (wr.alloc (.cells #[.string m, .int .i64 2, .bool nn] 82)).heap.size := by simp
        clear x0 x1 x2 x3 x4 x5 x6 x7 x8 x9 x10 x11 x12 x13 p0 p1 p2 hq hz
        generalize (wr.alloc (.cells #[.string m, .int .i64 2, .bool nn] 82)) = W1 at *
        generalize wr.heap.size = g at *
        have q1 := fun (w : World) => run_string_add_sum (P := Tryz.prog) (w := w) y m (by omega)
        have q2 := fun (w : World) => run_string_add_sum (P := Tryz.prog) (w := w) (y ++ m) ⟨#[32]⟩ (by rw [ByteArray.size_append]; have h1 : (⟨#[32]⟩ : ByteArray).size = 1 := rfl; omega)
        have q3 := fun (w : World) => run_string_add_sum (P := Tryz.prog) (w := w) (y ++ m ++ ⟨#[32]⟩) ⟨#[66, 79, 79, 76]⟩ (by rw [ByteArray.size_append, ByteArray.size_append]; have h1 : (⟨#[32]⟩ : ByteArray).size = 1 := rfl; have h2 : (⟨#[66, 79, 79, 76]⟩ : ByteArray).size = 4 := rfl; omega)
        refine region_anyT (fun w' => w'.cell? ⟨g, 0, none⟩ = some (.string m) ∧ w'.cell? ⟨g, 1, none⟩ = some (.int .i64 2)) [2, 5, 7, 8, 9, 10] (by kernel_rfl) ⟨f0, f1⟩ ?_
        intro hcl hS
        refine anyT_free (i := 0) (v := ?v0k2) rfl (by kernel_rfl) (by kernel_rfl) (by kernel_rfl) (by kernel_rfl) (fun _ _ _ h => h) (Or.inl ⟨by rfl, ?hy0k2⟩) hcl ?rest0k2
        case hy0k2 => intro w' _; go_simp; with_reducible rfl
        clear hcl
        intro hcl
        try simp only [Act.put, List.setIfInBounds_toArray, List.set_cons_zero, List.set_cons_succ]
        refine anyT_free (i := 1) (v := ?v1k2) rfl (by kernel_rfl) (by kernel_rfl) (by kernel_rfl) (by kernel_rfl) (fun _ _ _ h => h) (Or.inl ⟨by rfl, ?hy1k2⟩) hcl ?rest1k2
        case hy1k2 => intro w' _; go_simp; with_reducible rfl
        clear hcl
        intro hcl
        try simp only [Act.put, List.setIfInBounds_toArray, List.set_cons_zero, List.set_cons_succ]
        refine anyT_free (i := 6) (v := ?v6k2) rfl (by kernel_rfl) (by kernel_rfl) (by kernel_rfl) (by kernel_rfl) (fun _ _ _ h => h) (Or.inl ⟨by rfl, ?hy6k2⟩) hcl ?rest6k2
        case hy6k2 => intro w' _; go_simp; with_reducible rfl
        clear hcl
        intro hcl
        try simp only [Act.put, List.setIfInBounds_toArray, List.set_cons_zero, List.set_cons_succ]
        refine anyT_take (i := 2) (v := .string m) rfl (by kernel_rfl) (by kernel_rfl) (by kernel_rfl) (by kernel_rfl) (fun _ _ _ h => h) (Or.inl ⟨by rfl, ?hy2k2⟩) hS hcl ?rest2k2
        case hy2k2 => intro w' hSw; obtain ⟨g0, g1⟩ := hSw; go_simp; try rfl
        clear hcl
        intro hcl
        try simp only [Act.put, List.setIfInBounds_toArray, List.set_cons_zero, List.set_cons_succ]
        refine anyT_free (i := 3) (v := ?v3k2) rfl (by kernel_rfl) (by kernel_rfl) (by kernel_rfl) (by kernel_rfl) (fun _ _ _ h => h) (Or.inl ⟨by rfl, ?hy3k2⟩) hcl ?rest3k2
        case hy3k2 => intro w' _; go_simp; with_reducible rfl
        clear hcl
        intro hcl
        try simp only [Act.put, List.setIfInBounds_toArray, List.set_cons_zero, List.set_cons_succ]
        refine anyT_free (i := 4) (v := ?v4k2) rfl (by kernel_rfl) (by kernel_rfl) (by kernel_rfl) (by kernel_rfl) (fun _ _ _ h => h) (Or.inl ⟨by rfl, ?hy4k2⟩) hcl ?rest4k2
        case hy4k2 => intro w' _; go_simp; with_reducible rfl
        clear hcl
        intro hcl
        try simp only [Act.put, List.setIfInBounds_toArray, List.set_cons_zero, List.set_cons_succ]
        refine anyT_take (i := 7) (v := .int .i64 2) rfl (by kernel_rfl) (by kernel_rfl) (by kernel_rfl) (by kernel_rfl) (fun _ _ _ h => h) (Or.inl ⟨by rfl, ?hy7k2⟩) hS hcl ?rest7k2
        case hy7k2 => intro w' hSw; obtain ⟨g0, g1⟩ := hSw; go_simp; try rfl
        clear hcl
        intro hcl
        try simp only [Act.put, List.setIfInBounds_toArray, List.set_cons_zero, List.set_cons_succ]
        refine anyT_take (i := 8) (v := .int .i64 1) rfl (by kernel_rfl) (by kernel_rfl) (by kernel_rfl) (by kernel_rfl) (fun _ _ _ h => h) (Or.inl ⟨by rfl, ?hy8k2⟩) hS hcl ?rest8k2
        case hy8k2 => intro w' hSw; obtain ⟨g0, g1⟩ := hSw; go_simp; try rfl
        clear hcl
        intro hcl
        try simp only [Act.put, List.setIfInBounds_toArray, List.set_cons_zero, List.set_cons_succ]
        have t0 := (Below.cell (below1 W1.drew (.cells #[.string ⟨#[73, 78, 84]⟩, .string ⟨#[66, 79, 79, 76]⟩, .string ⟨#[84, 69, 88, 84]⟩] 9)) (p := ⟨g, 0, none⟩) hzg).trans f0
        have t1 := (Below.cell (below1 W1.drew (.cells #[.string ⟨#[73, 78, 84]⟩, .string ⟨#[66, 79, 79, 76]⟩, .string ⟨#[84, 69, 88, 84]⟩] 9)) (p := ⟨g, 1, none⟩) hzg).trans f1
        refine anyT_step (k := 5) rfl (by kernel_rfl) hcl ?_
        intro K hK
        clear hcl
        go_simp
        refine hK.out _ _ ⟨t0, t1⟩ (fun hS hcl => ?_)
        clear hK K
        try simp only [Act.put, List.setIfInBounds_toArray, List.set_cons_zero, List.set_cons_succ]
        refine anyT_step (k := 9) rfl (by kernel_rfl) hcl ?_
        intro K hK
        clear hcl
        go_simp
        refine hK.out _ _ ⟨t0, t1⟩ (fun hS hcl => ?_)
        clear hK K
        try simp only [Act.put, List.setIfInBounds_toArray, List.set_cons_zero, List.set_cons_succ]
        refine anyT_step (k := 10) rfl (by kernel_rfl) hcl ?_
        intro K hK
        clear hcl
        go_simp
        refine hK.out _ _ ⟨t0, t1⟩ (fun hS hcl => ?_)
        clear hK K
        try simp only [Act.put, List.setIfInBounds_toArray, List.set_cons_zero, List.set_cons_succ]
        clear t0 t1
        refine anyT_free (i := 11) (v := ?v11k2) rfl (by kernel_rfl) (by kernel_rfl) (by kernel_rfl) (by kernel_rfl) (fun _ _ _ h => h) (Or.inl ⟨by rfl, ?hy11k2⟩) hcl ?rest11k2
        case hy11k2 => intro w' _; go_simp; with_reducible rfl
        clear hcl
        intro hcl
        try simp only [Act.put, List.setIfInBounds_toArray, List.set_cons_zero, List.set_cons_succ]
        refine anyT_free (i := 12) (v := ?v12k2) rfl (by kernel_rfl) (by kernel_rfl) (by kernel_rfl) (by kernel_rfl) (fun _ _ _ h => h) (Or.inl ⟨by rfl, ?hy12k2⟩) hcl ?rest12k2
        case hy12k2 => intro w' _; go_simp; with_reducible rfl
        clear hcl
        intro hcl
        try simp only [Act.put, List.setIfInBounds_toArray, List.set_cons_zero, List.set_cons_succ]
        refine anyT_done (by kernel_rfl) ?_ _
        go_simp
        have HX2 := Lib.hid (heap_keep_alloc HX.out (.cells #[.string ⟨#[73, 78, 84]⟩, .string ⟨#[66, 79, 79, 76]⟩, .string ⟨#[84, 69, 88, 84]⟩] 9))
        have HB2 := Lib.hid (HB.out.alloc HB.out.size (.cells #[.string ⟨#[73, 78, 84]⟩, .string ⟨#[66, 79, 79, 76]⟩, .string ⟨#[84, 69, 88, 84]⟩] 9)).drew
        clear q1 q2 q3
        cases nn
        · go_wp2_with fail
          go_roundw
          case rel => exact ⟨_, j + 1, rfl, by go_num, hlt, by rw [HS.out, ← HY.out]; simp [colT, kindL, wKI, wKB, wKT, wnn, wcm, alist], HX2.out, HB2.out⟩
          case measure => simp [intOf]; omega
        · go_wp2_with fail
          go_roundw
          case rel => exact ⟨_, j + 1, rfl, by go_num, hlt, by rw [HS.out, ← HY.out]; simp [colT, kindL, wKI, wKB, wKT, wnn, wcm, alist], HX2.out, HB2.out⟩
          case measure => simp [intOf]; omega
      · go_upto_region 6 with fail
        have f0 : (wr.alloc (.cells #[.string m, .int .i64 3, .bool nn] 82)).cell? ⟨wr.heap.size, 0, none⟩ = some (.string m) := (by unfold World.cell?; rw [heap_alloc_new]; rfl)
        have f1 : (wr.alloc (.cells #[.string m, .int .i64 3, .bool nn] 82)).cell? ⟨wr.heap.size, 1, none⟩ = some (.int .i64 3) := (by unfold World.cell?; rw [heap_alloc_new]; rfl)
        have f2 : (wr.alloc (.cells #[.string m, .int .i64 3, .bool nn] 82)).cell? ⟨wr.heap.size, 2, none⟩ = some (.bool nn) := (by unfold World.cell?; rw [heap_alloc_new]; rfl)
        replace HX := Lib.hid (heap_keep_alloc HX.out (.cells #[.string m, .int .i64 3, .bool nn] 82))
        replace HB := Lib.hid (HB.out.alloc HB.out.size (.cells #[.string m, .int .i64 3, .bool nn] 82))
        have hzg : wr.heap.size < (wr.alloc (.cells #[.string m, .int .i64 3, .bool nn] 82)).heap.size := by simp
        clear x0 x1 x2 x3 x4 x5 x6 x7 x8 x9 x10 x11 x12 x13 p0 p1 p2 hq hz
        generalize (wr.alloc (.cells #[.string m, .int .i64 3, .bool nn] 82)) = W1 at *
        generalize wr.heap.size = g at *
        have q1 := fun (w : World) => run_string_add_sum (P := Tryz.prog) (w := w) y m (by omega)
        have q2 := fun (w : World) => run_string_add_sum (P := Tryz.prog) (w := w) (y ++ m) ⟨#[32]⟩ (by rw [ByteArray.size_append]; have h1 : (⟨#[32]⟩ : ByteArray).size = 1 := rfl; omega)
        have q3 := fun (w : World) => run_string_add_sum (P := Tryz.prog) (w := w) (y ++ m ++ ⟨#[32]⟩) ⟨#[84, 69, 88, 84]⟩ (by rw [ByteArray.size_append, ByteArray.size_append]; have h1 : (⟨#[32]⟩ : ByteArray).size = 1 := rfl; have h2 : (⟨#[84, 69, 88, 84]⟩ : ByteArray).size = 4 := rfl; omega)
        refine region_anyT (fun w' => w'.cell? ⟨g, 0, none⟩ = some (.string m) ∧ w'.cell? ⟨g, 1, none⟩ = some (.int .i64 3)) [2, 5, 7, 8, 9, 10] (by kernel_rfl) ⟨f0, f1⟩ ?_
        intro hcl hS
        refine anyT_free (i := 0) (v := ?v0k3) rfl (by kernel_rfl) (by kernel_rfl) (by kernel_rfl) (by kernel_rfl) (fun _ _ _ h => h) (Or.inl ⟨by rfl, ?hy0k3⟩) hcl ?rest0k3
        case hy0k3 => intro w' _; go_simp; with_reducible rfl
        clear hcl
        intro hcl
        try simp only [Act.put, List.setIfInBounds_toArray, List.set_cons_zero, List.set_cons_succ]
        refine anyT_free (i := 1) (v := ?v1k3) rfl (by kernel_rfl) (by kernel_rfl) (by kernel_rfl) (by kernel_rfl) (fun _ _ _ h => h) (Or.inl ⟨by rfl, ?hy1k3⟩) hcl ?rest1k3
        case hy1k3 => intro w' _; go_simp; with_reducible rfl
        clear hcl
        intro hcl
        try simp only [Act.put, List.setIfInBounds_toArray, List.set_cons_zero, List.set_cons_succ]
        refine anyT_free (i := 6) (v := ?v6k3) rfl (by kernel_rfl) (by kernel_rfl) (by kernel_rfl) (by kernel_rfl) (fun _ _ _ h => h) (Or.inl ⟨by rfl, ?hy6k3⟩) hcl ?rest6k3
        case hy6k3 => intro w' _; go_simp; with_reducible rfl
        clear hcl
        intro hcl
        try simp only [Act.put, List.setIfInBounds_toArray, List.set_cons_zero, List.set_cons_succ]
        refine anyT_take (i := 2) (v := .string m) rfl (by kernel_rfl) (by kernel_rfl) (by kernel_rfl) (by kernel_rfl) (fun _ _ _ h => h) (Or.inl ⟨by rfl, ?hy2k3⟩) hS hcl ?rest2k3
        case hy2k3 => intro w' hSw; obtain ⟨g0, g1⟩ := hSw; go_simp; try rfl
        clear hcl
        intro hcl
        try simp only [Act.put, List.setIfInBounds_toArray, List.set_cons_zero, List.set_cons_succ]
        refine anyT_free (i := 3) (v := ?v3k3) rfl (by kernel_rfl) (by kernel_rfl) (by kernel_rfl) (by kernel_rfl) (fun _ _ _ h => h) (Or.inl ⟨by rfl, ?hy3k3⟩) hcl ?rest3k3
        case hy3k3 => intro w' _; go_simp; with_reducible rfl
        clear hcl
        intro hcl
        try simp only [Act.put, List.setIfInBounds_toArray, List.set_cons_zero, List.set_cons_succ]
        refine anyT_free (i := 4) (v := ?v4k3) rfl (by kernel_rfl) (by kernel_rfl) (by kernel_rfl) (by kernel_rfl) (fun _ _ _ h => h) (Or.inl ⟨by rfl, ?hy4k3⟩) hcl ?rest4k3
        case hy4k3 => intro w' _; go_simp; with_reducible rfl
        clear hcl
        intro hcl
        try simp only [Act.put, List.setIfInBounds_toArray, List.set_cons_zero, List.set_cons_succ]
        refine anyT_take (i := 7) (v := .int .i64 3) rfl (by kernel_rfl) (by kernel_rfl) (by kernel_rfl) (by kernel_rfl) (fun _ _ _ h => h) (Or.inl ⟨by rfl, ?hy7k3⟩) hS hcl ?rest7k3
        case hy7k3 => intro w' hSw; obtain ⟨g0, g1⟩ := hSw; go_simp; try rfl
        clear hcl
        intro hcl
        try simp only [Act.put, List.setIfInBounds_toArray, List.set_cons_zero, List.set_cons_succ]
        refine anyT_take (i := 8) (v := .int .i64 2) rfl (by kernel_rfl) (by kernel_rfl) (by kernel_rfl) (by kernel_rfl) (fun _ _ _ h => h) (Or.inl ⟨by rfl, ?hy8k3⟩) hS hcl ?rest8k3
        case hy8k3 => intro w' hSw; obtain ⟨g0, g1⟩ := hSw; go_simp; try rfl
        clear hcl
        intro hcl
        try simp only [Act.put, List.setIfInBounds_toArray, List.set_cons_zero, List.set_cons_succ]
        have t0 := (Below.cell (below1 W1.drew (.cells #[.string ⟨#[73, 78, 84]⟩, .string ⟨#[66, 79, 79, 76]⟩, .string ⟨#[84, 69, 88, 84]⟩] 9)) (p := ⟨g, 0, none⟩) hzg).trans f0
        have t1 := (Below.cell (below1 W1.drew (.cells #[.string ⟨#[73, 78, 84]⟩, .string ⟨#[66, 79, 79, 76]⟩, .string ⟨#[84, 69, 88, 84]⟩] 9)) (p := ⟨g, 1, none⟩) hzg).trans f1
        refine anyT_step (k := 5) rfl (by kernel_rfl) hcl ?_
        intro K hK
        clear hcl
        go_simp
        refine hK.out _ _ ⟨t0, t1⟩ (fun hS hcl => ?_)
        clear hK K
        try simp only [Act.put, List.setIfInBounds_toArray, List.set_cons_zero, List.set_cons_succ]
        refine anyT_step (k := 9) rfl (by kernel_rfl) hcl ?_
        intro K hK
        clear hcl
        go_simp
        refine hK.out _ _ ⟨t0, t1⟩ (fun hS hcl => ?_)
        clear hK K
        try simp only [Act.put, List.setIfInBounds_toArray, List.set_cons_zero, List.set_cons_succ]
        refine anyT_step (k := 10) rfl (by kernel_rfl) hcl ?_
        intro K hK
        clear hcl
        go_simp
        refine hK.out _ _ ⟨t0, t1⟩ (fun hS hcl => ?_)
        clear hK K
        try simp only [Act.put, List.setIfInBounds_toArray, List.set_cons_zero, List.set_cons_succ]
        clear t0 t1
        refine anyT_free (i := 11) (v := ?v11k3) rfl (by kernel_rfl) (by kernel_rfl) (by kernel_rfl) (by kernel_rfl) (fun _ _ _ h => h) (Or.inl ⟨by rfl, ?hy11k3⟩) hcl ?rest11k3
        case hy11k3 => intro w' _; go_simp; with_reducible rfl
        clear hcl
        intro hcl
        try simp only [Act.put, List.setIfInBounds_toArray, List.set_cons_zero, List.set_cons_succ]
        refine anyT_free (i := 12) (v := ?v12k3) rfl (by kernel_rfl) (by kernel_rfl) (by kernel_rfl) (by kernel_rfl) (fun _ _ _ h => h) (Or.inl ⟨by rfl, ?hy12k3⟩) hcl ?rest12k3
        case hy12k3 => intro w' _; go_simp; with_reducible rfl
        clear hcl
        intro hcl
        try simp only [Act.put, List.setIfInBounds_toArray, List.set_cons_zero, List.set_cons_succ]
        refine anyT_done (by kernel_rfl) ?_ _
        go_simp
        have HX2 := Lib.hid (heap_keep_alloc HX.out (.cells #[.string ⟨#[73, 78, 84]⟩, .string ⟨#[66, 79, 79, 76]⟩, .string ⟨#[84, 69, 88, 84]⟩] 9))
        have HB2 := Lib.hid (HB.out.alloc HB.out.size (.cells #[.string ⟨#[73, 78, 84]⟩, .string ⟨#[66, 79, 79, 76]⟩, .string ⟨#[84, 69, 88, 84]⟩] 9)).drew
        clear q1 q2 q3
        cases nn
        · go_wp2_with fail
          go_roundw
          case rel => exact ⟨_, j + 1, rfl, by go_num, hlt, by rw [HS.out, ← HY.out]; simp [colT, kindL, wKI, wKB, wKT, wnn, wcm, alist], HX2.out, HB2.out⟩
          case measure => simp [intOf]; omega
        · go_wp2_with fail
          go_roundw
          case rel => exact ⟨_, j + 1, rfl, by go_num, hlt, by rw [HS.out, ← HY.out]; simp [colT, kindL, wKI, wKB, wKT, wnn, wcm, alist], HX2.out, HB2.out⟩
          case measure => simp [intOf]; omega
    · have HE : Hid (cols.take j = cols) := Lib.hid (List.take_of_length_le (by omega))
      go_wp2_with fail
      go_ret
      exact ⟨ret_str (ba_ext (by rw [HY.out, HE.out])), HB.out⟩
end Go.Proofs.YtnbgnofbeklmkaaGreatDoor
/- How the reference prints a select: the walk of selected. Conditions: a select that may be, read in memory. -/
namespace Go.Proofs.YtnbgnofbeklmkaaGreatDoor
open Go.RowKit Go.Sort
set_option linter.unusedSimpArgs false
set_option linter.unusedVariables false

theorem part_next {α : Type} (ws : List UInt8) (f : α → List UInt8) (l : List α) (j : Nat) (y : α) (h : l[j]? = some y) : partL ws f (l.take (j + 1)) = partL ws f (l.take j) ++ ((if j = 0 then ws else wcm) ++ f y) := by
  have hj : j < l.length := (List.getElem?_eq_some_iff.1 h).1
  have h1 : 0 < (l.take (j + 1)).length := by rw [List.length_take]; omega
  rw [part_on h1, join_next wcm f l j y h]
  rcases Nat.eq_zero_or_pos j with h0 | h0
  · rw [if_pos h0, if_pos h0, h0]
    simp [joinL, partL]
  · have h2 : 0 < (l.take j).length := by rw [List.length_take]; omega
    rw [part_on h2, if_neg (by omega), if_neg (by omega)]
    simp
theorem dec_le {n : Nat} (h : n ≤ 9223372036854775807) : (dec n).length ≤ 20 := by
  have := dec_len n
  omega
/-- What a select that may be keeps. -/
structure SelOk {n : Nat} (x : St n) : Prop where
  tb : x.tb.size ≤ 16
  jn : x.jn.size ≤ 16
  items : ∀ y ∈ x.items, chk y = 0
  on : ∀ y ∈ x.on, chk y = 0
  wh : ∀ y ∈ x.wh, chk y = 0
  gr : ∀ y ∈ x.gr, chk y = 0
  ord : ∀ y ∈ x.ord, OrdOk y
  nI : 1 ≤ x.items.length ∧ x.items.length ≤ 16
  nO : x.on.length ≤ 1
  nW : x.wh.length ≤ 1
  nG : x.gr.length ≤ 1
  nD : x.ord.length ≤ 8
  lim : -1 ≤ x.lim ∧ x.lim ≤ 2147483648
  jo : emp x.jn = true → x.on = []
theorem pr_le {n : Nat} {y : Ar n} (h : chk y = 0) : (prA n y).length ≤ 9600 := by
  rw [prA_e]; exact (chk_ok h).2
theorem part_le {n : Nat} {ws : List UInt8} {l : List (Ar n)} (h : ∀ y ∈ l, chk y = 0) (h1 : l.length ≤ 1) (hw : ws.length ≤ 12) : (partL ws (prA n) l).length ≤ 9612 := by
  match l, h1 with
  | [], _ => simp [partL]
  | [y], _ =>
    have := pr_le (h y (List.mem_cons_self ..))
    simp [partL, joinL]
    omega
theorem add_run {a b : ByteArray} (w : World) (h : a.size + b.size ≤ 9223372036854775807) : (Op.stringOp .add a b).run Tryz.prog w = .ok (.string (a ++ b)) w := run_string_add_sum w a b h

set_option maxHeartbeats 16000000 in
set_option maxRecDepth 100000 in
theorem rselected_any {n : Nat} (x : St n) (h : Hs) (ok : SelOk x) (w : World) (hr : RdSt Any w x h) :
    Calls Tryz.prog 38 #[x.val h] w fun e w' => e = .returned (.string ⟨(queryT x).toArray⟩) ∧ Below w.heap.size w w' := by
  have HI := Lib.hid fun (w' : World) (hb : Below w.heap.size w w') => rlist_any x.items (fun y hy => chk_okP (ok.items y hy)) (fun y hy => pr_le (ok.items y hy)) h.I.a h.I.c w' (RdK.below (KE_ok n) (w := w) hr.I hb) ok.nI.2
  have HO := Lib.hid fun (w' : World) (hb : Below w.heap.size w w') => rwith_any ⟨#[79, 78]⟩ x.on (by decide) (fun y hy => chk_okP (ok.on y hy)) (fun y hy => pr_le (ok.on y hy)) h.O.a h.O.c w' (RdK.below (KE_ok n) (w := w) hr.O hb) ok.nO
  have HW := Lib.hid fun (w' : World) (hb : Below w.heap.size w w') => rwith_any ⟨#[87, 72, 69, 82, 69]⟩ x.wh (by decide) (fun y hy => chk_okP (ok.wh y hy)) (fun y hy => pr_le (ok.wh y hy)) h.W.a h.W.c w' (RdK.below (KE_ok n) (w := w) hr.W hb) ok.nW
  have HG := Lib.hid fun (w' : World) (hb : Below w.heap.size w w') => rwith_any ⟨#[71, 82, 79, 85, 80, 32, 66, 89]⟩ x.gr (by decide) (fun y hy => chk_okP (ok.gr y hy)) (fun y hy => pr_le (ok.gr y hy)) h.G.a h.G.c w' (RdK.below (KE_ok n) (w := w) hr.G hb) ok.nG
  have HQ : Hid (queryT x = wSE ++ joinL wcm (x.items.map (prA n)) ++ wfr ++ x.tb.data.toList ++ joinT x.jn ++ partL won (prA n) x.on ++ partL wwh (prA n) x.wh ++ partL wgr (prA n) x.gr ++ partL wor ordT x.ord ++ limT x.lim) := Lib.hid (by
    unfold queryT
    rw [part_on ok.nI.1]
    simp)
  have t1l : (joinL wcm (x.items.map (prA n))).length ≤ 153632 := by
    have h2 := join_len wcm (prA n) 9600 (fun y hy => pr_le (ok.items y hy)) x.items.length
    have h3 : wcm.length = 2 := rfl
    rw [List.take_length, h3] at h2
    have h4 : x.items.length * (9600 + 2) ≤ 16 * (9600 + 2) := Nat.mul_le_mul_right _ ok.nI.2
    omega
  have t2l : (partL won (prA n) x.on).length ≤ 9612 := part_le ok.on ok.nO (by decide)
  have t3l : (partL wwh (prA n) x.wh).length ≤ 9612 := part_le ok.wh ok.nW (by decide)
  have t4l : (partL wgr (prA n) x.gr).length ≤ 9612 := part_le ok.gr ok.nG (by decide)
  have HJ : Hid (emp x.jn = true → partL won (prA n) x.on = []) := Lib.hid fun he => by rw [ok.jo he]; rfl
  have HD := Lib.hid ok.ord
  have HRD := Lib.hid hr.D
  have nD := ok.nD
  have htb := ok.tb
  have hjn := ok.jn
  obtain ⟨lm1, lm2⟩ := ok.lim
  have w1 : (32 :: ((⟨#[79, 78]⟩ : ByteArray).data.toList ++ [32])) = won := rfl
  have w2 : (32 :: ((⟨#[87, 72, 69, 82, 69]⟩ : ByteArray).data.toList ++ [32])) = wwh := rfl
  have w3 : (32 :: ((⟨#[71, 82, 79, 85, 80, 32, 66, 89]⟩ : ByteArray).data.toList ++ [32])) = wgr := rfl
  rw [w1] at HO
  rw [w2] at HW
  rw [w3] at HG
  clear w1 w2 w3 ok hr
  obtain ⟨kind, tb, cols, key, ix, rows, sets, items, jn, on, wh, gr, ord, lim⟩ := x
  obtain ⟨⟨aC, ac1⟩, ⟨aR, ac2⟩, ⟨aS, ac3⟩, ⟨aI, ac4⟩, ⟨aO, ac5⟩, ⟨aW, ac6⟩, ⟨aG, ac7⟩, ⟨aD, ac8⟩⟩ := h
  unfold St.val St.cs
  dsimp only at HI HO HW HG HQ t1l t2l t3l t4l HJ HD HRD nD htb hjn lm1 lm2 ⊢
  rw [HQ.out]
  generalize joinL wcm (items.map (prA n)) = T1 at *
  generalize partL won (prA n) on = T2 at *
  generalize partL wwh (prA n) wh = T3 at *
  generalize partL wgr (prA n) gr = T4 at *
  clear HQ
  have e1 : (⟨T1.toArray⟩ : ByteArray).data.toList = T1 := rfl
  have z1 : (⟨T1.toArray⟩ : ByteArray).size = T1.length := by rw [← bsz]
  have z2 : (⟨T2.toArray⟩ : ByteArray).size = T2.length := by rw [← bsz]
  have z3 : (⟨T3.toArray⟩ : ByteArray).size = T3.length := by rw [← bsz]
  have z4 : (⟨T4.toArray⟩ : ByteArray).size = T4.length := by rw [← bsz]
  have q1l : (⟨T1.toArray⟩ : ByteArray).size ≤ 153632 := by omega
  have q2l : (⟨T2.toArray⟩ : ByteArray).size ≤ 9612 := by omega
  have q3l : (⟨T3.toArray⟩ : ByteArray).size ≤ 9612 := by omega
  have q4l : (⟨T4.toArray⟩ : ByteArray).size ≤ 9612 := by omega
  clear e1 z1 z2 z3 z4 t1l t2l t3l t4l
  have HT1 : Hid ((⟨T1.toArray⟩ : ByteArray).data.toList = T1) := Lib.hid rfl
  have HT2 : Hid ((⟨T2.toArray⟩ : ByteArray).data.toList = T2) := Lib.hid rfl
  have HT3 : Hid ((⟨T3.toArray⟩ : ByteArray).data.toList = T3) := Lib.hid rfl
  have HT4 : Hid ((⟨T4.toArray⟩ : ByteArray).data.toList = T4) := Lib.hid rfl
  generalize (⟨T1.toArray⟩ : ByteArray) = t1 at *
  generalize (⟨T2.toArray⟩ : ByteArray) = t2 at *
  generalize (⟨T3.toArray⟩ : ByteArray) = t3 at *
  generalize (⟨T4.toArray⟩ : ByteArray) = t4 at *
  generalize hE : emp jn = E at HJ
  have HE := Lib.hid hE
  unfold emp at hE

  cases E
  · skip
    go_enter Tryz.func38, Tryz.ntmps38
    go_upto_region 1 with fail
    have HX := Lib.hid (heap_alloc_new w (.cells #[.int .i64 kind, .string tb, .slice aC cols.length ac1, .string key, .string ix, .slice aR rows.length ac2, .slice aS sets.length ac3, .slice aI items.length ac4, .string jn, .slice aO on.length ac5, .slice aW wh.length ac6, .slice aG gr.length ac7, .slice aD ord.length ac8, .int .i64 lim] 28))
    have HB := Lib.hid (below1 w (.cells #[.int .i64 kind, .string tb, .slice aC cols.length ac1, .string key, .string ix, .slice aR rows.length ac2, .slice aS sets.length ac3, .slice aI items.length ac4, .string jn, .slice aO on.length ac5, .slice aW wh.length ac6, .slice aG gr.length ac7, .slice aD ord.length ac8, .int .i64 lim] 28))
    generalize (w.alloc (.cells #[.int .i64 kind, .string tb, .slice aC cols.length ac1, .string key, .string ix, .slice aR rows.length ac2, .slice aS sets.length ac3, .slice aI items.length ac4, .string jn, .slice aO on.length ac5, .slice aW wh.length ac6, .slice aG gr.length ac7, .slice aD ord.length ac8, .int .i64 lim] 28)) = W at *
    obtain ⟨x0, x1, x2, x3, x4, x5, x6, x7, x8, x9, x10, x11, x12, x13⟩ := cells14 HX.out
    have hbr := fun d os => HB.out.trans ((below_regrown W d os).mono HB.out.size)
    have c0 := fun d os => HI.out (grow (redrawn W d) os) (hbr d os)
    clear hbr
    have y1 := cell_regrown x1
    have y7 := cell_regrown x7
    clear x0 x1 x2 x3 x4 x5 x6 x7 x8 x9 x10 x11 x12 x13
    have a0 := fun (w : World) => add_run (a := ⟨#[83, 69, 76, 69, 67, 84, 32]⟩) (b := t1) w (by (try simp only [ByteArray.size_append]); have k0 : (⟨#[83, 69, 76, 69, 67, 84, 32]⟩ : ByteArray).size = 7 := rfl; omega)
    have a1 := fun (w : World) => add_run (a := (⟨#[83, 69, 76, 69, 67, 84, 32]⟩ ++ t1)) (b := ⟨#[32, 70, 82, 79, 77, 32]⟩) w (by (try simp only [ByteArray.size_append]); have k0 : (⟨#[83, 69, 76, 69, 67, 84, 32]⟩ : ByteArray).size = 7 := rfl; have k1 : (⟨#[32, 70, 82, 79, 77, 32]⟩ : ByteArray).size = 6 := rfl; omega)
    have a2 := fun (w : World) => add_run (a := (⟨#[83, 69, 76, 69, 67, 84, 32]⟩ ++ t1 ++ ⟨#[32, 70, 82, 79, 77, 32]⟩)) (b := tb) w (by (try simp only [ByteArray.size_append]); have k0 : (⟨#[83, 69, 76, 69, 67, 84, 32]⟩ : ByteArray).size = 7 := rfl; have k1 : (⟨#[32, 70, 82, 79, 77, 32]⟩ : ByteArray).size = 6 := rfl; omega)
    refine wp_region_quiet_below (by kernel_rfl) (by kernel_rfl) ?_
    repeat (go_big_quiet_step (first | (with_reducible exact Calls.regrown_of (c0 _ _))))
    refine wpQuiet_nil ?_
    intro w5 hw5
    obtain ⟨p, rfl⟩ := hw5
    replace HX := Lib.hid (((below_regrown W p.d p.os).block _ (heap_lt HX.out)).trans HX.out)
    replace HB := Lib.hid (HB.out.trans ((below_regrown W p.d p.os).mono HB.out.size))
    clear c0 y1 y7 a0 a1 a2
    generalize (grow (redrawn W p.d) p.os) = W2 at *
    obtain ⟨x0, x1, x2, x3, x4, x5, x6, x7, x8, x9, x10, x11, x12, x13⟩ := cells14 HX.out
    generalize hs : ((⟨#[83, 69, 76, 69, 67, 84, 32]⟩ : ByteArray) ++ t1 ++ ⟨#[32, 70, 82, 79, 77, 32]⟩ ++ tb) = s3 at *
    have HS3 : Hid (s3.data.toList = wSE ++ T1 ++ wfr ++ tb.data.toList) := Lib.hid (by rw [← hs]; simp [alist, HT1.out, wSE, wfr])
    have s3l : s3.size ≤ 153700 := by rw [← hs]; (try simp only [ByteArray.size_append]); have k0 : (⟨#[83, 69, 76, 69, 67, 84, 32]⟩ : ByteArray).size = 7 := rfl; have k1 : (⟨#[32, 70, 82, 79, 77, 32]⟩ : ByteArray).size = 6 := rfl; omega
    clear hs
    have hE2 : (!jn.toList.isEmpty) = true := by rw [hE]; rfl
    go_upto_region 3 with fail
    clear hE hE2
    have hbr := fun d os => HB.out.trans ((below_regrown W2 d os).mono HB.out.size)
    have c0 := fun d os => HO.out (grow (redrawn W2 d) os) (hbr d os)
    clear hbr
    have y8 := cell_regrown x8
    have y9 := cell_regrown x9
    clear x0 x1 x2 x3 x4 x5 x6 x7 x8 x9 x10 x11 x12 x13
    have a0 := fun (w : World) => add_run (a := s3) (b := ⟨#[32, 74, 79, 73, 78, 32]⟩) w (by (try simp only [ByteArray.size_append]); have k0 : (⟨#[32, 74, 79, 73, 78, 32]⟩ : ByteArray).size = 6 := rfl; omega)
    have a1 := fun (w : World) => add_run (a := (s3 ++ ⟨#[32, 74, 79, 73, 78, 32]⟩)) (b := jn) w (by (try simp only [ByteArray.size_append]); have k0 : (⟨#[32, 74, 79, 73, 78, 32]⟩ : ByteArray).size = 6 := rfl; omega)
    have a2 := fun (w : World) => add_run (a := (s3 ++ ⟨#[32, 74, 79, 73, 78, 32]⟩ ++ jn)) (b := t2) w (by (try simp only [ByteArray.size_append]); have k0 : (⟨#[32, 74, 79, 73, 78, 32]⟩ : ByteArray).size = 6 := rfl; omega)
    refine wp_region_quiet_below (by kernel_rfl) (by kernel_rfl) ?_
    repeat (go_big_quiet_step (first | (with_reducible exact Calls.regrown_of (c0 _ _))))
    refine wpQuiet_nil ?_
    intro w5 hw5
    obtain ⟨p, rfl⟩ := hw5
    replace HX := Lib.hid (((below_regrown W2 p.d p.os).block _ (heap_lt HX.out)).trans HX.out)
    replace HB := Lib.hid (HB.out.trans ((below_regrown W2 p.d p.os).mono HB.out.size))
    clear c0 y8 y9 a0 a1 a2
    generalize (grow (redrawn W2 p.d) p.os) = W3 at *
    obtain ⟨x0, x1, x2, x3, x4, x5, x6, x7, x8, x9, x10, x11, x12, x13⟩ := cells14 HX.out
    generalize hs : (s3 ++ ⟨#[32, 74, 79, 73, 78, 32]⟩ ++ jn ++ t2) = s4 at *
    have HS4 : Hid (s4.data.toList = wSE ++ T1 ++ wfr ++ tb.data.toList ++ joinT jn ++ T2) := Lib.hid (by rw [← hs]; unfold joinT; rw [HE.out]; simp [alist, HT2.out, HS3.out, wjo])
    have s4l : s4.size ≤ 170000 := by rw [← hs]; (try simp only [ByteArray.size_append]); have k0 : (⟨#[32, 74, 79, 73, 78, 32]⟩ : ByteArray).size = 6 := rfl; omega
    clear hs s3l
    go_upto_region 4 with fail
    clear HJ HS3
    have hbr := fun d os => HB.out.trans ((below_regrown W3 d os).mono HB.out.size)
    have c0 := fun d os => HW.out (grow (redrawn W3 d) os) (hbr d os)
    have c1 := fun d os => HG.out (grow (redrawn W3 d) os) (hbr d os)
    clear hbr
    have y10 := cell_regrown x10
    have y11 := cell_regrown x11
    clear x0 x1 x2 x3 x4 x5 x6 x7 x8 x9 x10 x11 x12 x13
    have a0 := fun (w : World) => add_run (a := s4) (b := t3) w (by (try simp only [ByteArray.size_append]); omega)
    have a1 := fun (w : World) => add_run (a := (s4 ++ t3)) (b := t4) w (by (try simp only [ByteArray.size_append]); omega)
    refine wp_region_quiet_below (by kernel_rfl) (by kernel_rfl) ?_
    repeat (go_big_quiet_step (first | (with_reducible exact Calls.regrown_of (c0 _ _)) | (with_reducible exact Calls.regrown_of (c1 _ _))))
    refine wpQuiet_nil ?_
    intro w5 hw5
    obtain ⟨p, rfl⟩ := hw5
    replace HX := Lib.hid (((below_regrown W3 p.d p.os).block _ (heap_lt HX.out)).trans HX.out)
    replace HB := Lib.hid (HB.out.trans ((below_regrown W3 p.d p.os).mono HB.out.size))
    clear c0 c1 y10 y11 a0 a1
    generalize (grow (redrawn W3 p.d) p.os) = W4 at *
    obtain ⟨x0, x1, x2, x3, x4, x5, x6, x7, x8, x9, x10, x11, x12, x13⟩ := cells14 HX.out
    generalize hs : (s4 ++ t3 ++ t4) = s5 at *
    have HS5 : Hid (s5.data.toList = wSE ++ T1 ++ wfr ++ tb.data.toList ++ joinT jn ++ T2 ++ T3 ++ T4) := Lib.hid (by rw [← hs]; simp [alist, HT3.out, HT4.out, HS4.out])
    have s5l : s5.size ≤ 200000 := by rw [← hs]; simp only [ByteArray.size_append]; omega
    clear hs s4l q1l q2l q3l q4l HT1 HT2 HT3 HT4 HI HO HW HG HS4 HE
    generalize hZ : (wSE ++ T1 ++ wfr ++ tb.data.toList ++ joinT jn ++ T2 ++ T3 ++ T4) = Z at *
    have HZ := Lib.hid hZ
    clear hZ
    go_wp2_with fail
    go_loopw [3, 4] (fun v i wr => ∃ (y : ByteArray) (j : Nat), v = .string y ∧ i = .int .i64 j ∧ j ≤ ord.length ∧ y.data.toList = Z ++ partL wor ordT (ord.take j) ∧ y.size ≤ 200000 + j * 40 ∧ wr.heap[w.heap.size]? = some (.cells #[.int .i64 kind, .string tb, .slice aC cols.length ac1, .string key, .string ix, .slice aR rows.length ac2, .slice aS sets.length ac3, .slice aI items.length ac4, .string jn, .slice aO on.length ac5, .slice aW wh.length ac6, .slice aG gr.length ac7, .slice aD ord.length ac8, .int .i64 lim] 28 (0, 0)) ∧ Below w.heap.size w wr) (fun _ i _ => ord.length - (intOf i).toNat)
    case atStart => exact ⟨s5, 0, rfl, rfl, Nat.zero_le _, by rw [HS5.out]; simp [partL], by omega, HX.out, HB.out⟩
    case round =>
      clear HX HB HS5 s5l x0 x1 x2 x3 x4 x5 x6 x7 x8 x9 x10 x11 x12 x13
      obtain ⟨y, j, rfl, rfl, hj, hy, hyz, hX, hb⟩ := hrel
      have HY := Lib.hid hy
      have HB := Lib.hid hb
      have HX := Lib.hid hX
      clear hy hb hX
      obtain ⟨x0, x1, x2, x3, x4, x5, x6, x7, x8, x9, x10, x11, x12, x13⟩ := cells14 HX.out
      rcases Nat.lt_or_ge j ord.length with hlt | hge
      · obtain ⟨ad, rfl, p0, p1⟩ := (RdK.below KO_ok HRD.out HB.out).ord (j := j) hlt
        have hod := HD.out ord[j] (List.getElem_mem hlt)
        have HS := Lib.hid (part_next wor ordT ord j ord[j] (List.getElem?_eq_getElem hlt))
        clear HRD HD
        generalize ord[j] = c at *
        obtain ⟨k, d⟩ := c
        obtain ⟨hk0, hk1⟩ := hod
        dsimp only at p0 p1 hk0 hk1
        obtain ⟨k, rfl⟩ := Int.eq_ofNat_of_zero_le hk0
        have hDL := dec_le (n := k) (by omega)
        have HDC := Lib.hid fun (w' : World) => rDecimal_any k (by omega) w'
        have HOT : Hid (ordT ⟨(k : Int), d⟩ = dec k ++ if d = true then wde else []) := Lib.hid rfl
        have hdz : (⟨(dec k).toArray⟩ : ByteArray).size ≤ 20 := by rw [← bsz]; exact hDL
        have HDD : Hid ((⟨(dec k).toArray⟩ : ByteArray).data.toList = dec k) := Lib.hid rfl
        generalize (⟨(dec k).toArray⟩ : ByteArray) = D at *
        generalize dec k = DL at *
        clear hDL hk0
        rcases Nat.eq_zero_or_pos j with h0 | h0
        · have hd : ((j : Int) == 0) = true := by simp [h0]
          have hd2 : (j == 0) = true := by simp [h0]
          have H0 := Lib.hid h0
          have hj0 : j ≤ 0 := by omega
          clear h0
          cases d
          · go_wp2_with (go_at_call 78; refine (HDC.out _).mono ?_; rintro e w1 ⟨rfl, hb⟩; have HX1 := Lib.hid ((hb.block _ (heap_lt HX.out)).trans HX.out); have HB1 := Lib.hid (below_call hb HB.out HB.out.size); replace p0 := cell_keep p0 hb; replace p1 := cell_keep p1 hb; clear hb HX HB x0 x1 x2 x3 x4 x5 x6 x7 x8 x9 x10 x11 x12 x13; obtain ⟨x0, x1, x2, x3, x4, x5, x6, x7, x8, x9, x10, x11, x12, x13⟩ := cells14 HX1.out)
            go_roundw
            case rel => exact ⟨_, j + 1, rfl, by go_num, hlt, by rw [HS.out, if_pos H0.out, HOT.out]; simp [alist, HY.out, HDD.out, wor, wcm, wde], by (try simp only [ByteArray.size_append]); have k0 : (⟨#[32, 79, 82, 68, 69, 82, 32, 66, 89, 32]⟩ : ByteArray).size = 10 := rfl; omega, HX1.out, HB1.out⟩
            case measure => simp [intOf]; omega
          · go_wp2_with (go_at_call 78; refine (HDC.out _).mono ?_; rintro e w1 ⟨rfl, hb⟩; have HX1 := Lib.hid ((hb.block _ (heap_lt HX.out)).trans HX.out); have HB1 := Lib.hid (below_call hb HB.out HB.out.size); replace p0 := cell_keep p0 hb; replace p1 := cell_keep p1 hb; clear hb HX HB x0 x1 x2 x3 x4 x5 x6 x7 x8 x9 x10 x11 x12 x13; obtain ⟨x0, x1, x2, x3, x4, x5, x6, x7, x8, x9, x10, x11, x12, x13⟩ := cells14 HX1.out)
            go_roundw
            case rel => exact ⟨_, j + 1, rfl, by go_num, hlt, by rw [HS.out, if_pos H0.out, HOT.out]; simp [alist, HY.out, HDD.out, wor, wcm, wde], by (try simp only [ByteArray.size_append]); have k0 : (⟨#[32, 79, 82, 68, 69, 82, 32, 66, 89, 32]⟩ : ByteArray).size = 10 := rfl; have k1 : (⟨#[32, 68, 69, 83, 67]⟩ : ByteArray).size = 5 := rfl; omega, HX1.out, HB1.out⟩
            case measure => simp [intOf]; omega
        · have hd : ((j : Int) == 0) = false := by rw [beq_eq_false_iff_ne]; omega
          have hd2 : (j == 0) = false := by rw [beq_eq_false_iff_ne]; omega
          have H0 := Lib.hid (show ¬ j = 0 by omega)
          cases d
          · go_wp2_with (go_at_call 78; refine (HDC.out _).mono ?_; rintro e w1 ⟨rfl, hb⟩; have HX1 := Lib.hid ((hb.block _ (heap_lt HX.out)).trans HX.out); have HB1 := Lib.hid (below_call hb HB.out HB.out.size); replace p0 := cell_keep p0 hb; replace p1 := cell_keep p1 hb; clear hb HX HB x0 x1 x2 x3 x4 x5 x6 x7 x8 x9 x10 x11 x12 x13; obtain ⟨x0, x1, x2, x3, x4, x5, x6, x7, x8, x9, x10, x11, x12, x13⟩ := cells14 HX1.out)
            go_roundw
            case rel => exact ⟨_, j + 1, rfl, by go_num, hlt, by rw [HS.out, if_neg H0.out, HOT.out]; simp [alist, HY.out, HDD.out, wor, wcm, wde], by (try simp only [ByteArray.size_append]); have k0 : (⟨#[44, 32]⟩ : ByteArray).size = 2 := rfl; omega, HX1.out, HB1.out⟩
            case measure => simp [intOf]; omega
          · go_wp2_with (go_at_call 78; refine (HDC.out _).mono ?_; rintro e w1 ⟨rfl, hb⟩; have HX1 := Lib.hid ((hb.block _ (heap_lt HX.out)).trans HX.out); have HB1 := Lib.hid (below_call hb HB.out HB.out.size); replace p0 := cell_keep p0 hb; replace p1 := cell_keep p1 hb; clear hb HX HB x0 x1 x2 x3 x4 x5 x6 x7 x8 x9 x10 x11 x12 x13; obtain ⟨x0, x1, x2, x3, x4, x5, x6, x7, x8, x9, x10, x11, x12, x13⟩ := cells14 HX1.out)
            go_roundw
            case rel => exact ⟨_, j + 1, rfl, by go_num, hlt, by rw [HS.out, if_neg H0.out, HOT.out]; simp [alist, HY.out, HDD.out, wor, wcm, wde], by (try simp only [ByteArray.size_append]); have k0 : (⟨#[44, 32]⟩ : ByteArray).size = 2 := rfl; have k1 : (⟨#[32, 68, 69, 83, 67]⟩ : ByteArray).size = 5 := rfl; omega, HX1.out, HB1.out⟩
            case measure => simp [intOf]; omega
      · have HEq : Hid (ord.take j = ord) := Lib.hid (List.take_of_length_le (by omega))
        rcases (show lim = -1 ∨ 0 ≤ lim by omega) with hl | hl
        · have hd : decide ((0 : Int) ≤ lim) = false := by simp; omega
          have HLm : Hid (limT lim = []) := Lib.hid (by unfold limT; rw [if_pos hl])
          have hl2 : lim < 0 := by omega
          clear hl
          go_wp2_with fail
          go_ret
          exact ⟨ret_str (ba_ext (by rw [HY.out, HEq.out, HLm.out, ← HZ.out]; simp)), HB.out⟩
        · obtain ⟨m, rfl⟩ := Int.eq_ofNat_of_zero_le hl
          have hd : decide ((0 : Int) ≤ (m : Int)) = true := by simp
          have HLm : Hid (limT (m : Int) = wli ++ dec m) := Lib.hid (by unfold limT; rw [if_neg (by omega)]; rfl)
          have hDL := dec_le (n := m) (by omega)
          have HDC := Lib.hid fun (w' : World) => rDecimal_any m (by omega) w'
          have hdz : (⟨(dec m).toArray⟩ : ByteArray).size ≤ 20 := by rw [← bsz]; exact hDL
          have HDD : Hid ((⟨(dec m).toArray⟩ : ByteArray).data.toList = dec m) := Lib.hid rfl
          generalize (⟨(dec m).toArray⟩ : ByteArray) = D at *
          generalize dec m = DL at *
          clear hDL
          have hyz2 : y.size ≤ 300000 := by omega
          go_wp2_with (go_at_call 78; refine (HDC.out _).mono ?_; rintro e w1 ⟨rfl, hb⟩; have HB1 := Lib.hid (below_call hb HB.out HB.out.size); clear hb)
          go_ret
          exact ⟨ret_str (ba_ext (by rw [HLm.out]; simp [alist, HY.out, HEq.out, HDD.out, wli, ← HZ.out])), HB1.out⟩
  · skip
    go_enter Tryz.func38, Tryz.ntmps38
    go_upto_region 1 with fail
    have HX := Lib.hid (heap_alloc_new w (.cells #[.int .i64 kind, .string tb, .slice aC cols.length ac1, .string key, .string ix, .slice aR rows.length ac2, .slice aS sets.length ac3, .slice aI items.length ac4, .string jn, .slice aO on.length ac5, .slice aW wh.length ac6, .slice aG gr.length ac7, .slice aD ord.length ac8, .int .i64 lim] 28))
    have HB := Lib.hid (below1 w (.cells #[.int .i64 kind, .string tb, .slice aC cols.length ac1, .string key, .string ix, .slice aR rows.length ac2, .slice aS sets.length ac3, .slice aI items.length ac4, .string jn, .slice aO on.length ac5, .slice aW wh.length ac6, .slice aG gr.length ac7, .slice aD ord.length ac8, .int .i64 lim] 28))
    generalize (w.alloc (.cells #[.int .i64 kind, .string tb, .slice aC cols.length ac1, .string key, .string ix, .slice aR rows.length ac2, .slice aS sets.length ac3, .slice aI items.length ac4, .string jn, .slice aO on.length ac5, .slice aW wh.length ac6, .slice aG gr.length ac7, .slice aD ord.length ac8, .int .i64 lim] 28)) = W at *
    obtain ⟨x0, x1, x2, x3, x4, x5, x6, x7, x8, x9, x10, x11, x12, x13⟩ := cells14 HX.out
    have hbr := fun d os => HB.out.trans ((below_regrown W d os).mono HB.out.size)
    have c0 := fun d os => HI.out (grow (redrawn W d) os) (hbr d os)
    clear hbr
    have y1 := cell_regrown x1
    have y7 := cell_regrown x7
    clear x0 x1 x2 x3 x4 x5 x6 x7 x8 x9 x10 x11 x12 x13
    have a0 := fun (w : World) => add_run (a := ⟨#[83, 69, 76, 69, 67, 84, 32]⟩) (b := t1) w (by (try simp only [ByteArray.size_append]); have k0 : (⟨#[83, 69, 76, 69, 67, 84, 32]⟩ : ByteArray).size = 7 := rfl; omega)
    have a1 := fun (w : World) => add_run (a := (⟨#[83, 69, 76, 69, 67, 84, 32]⟩ ++ t1)) (b := ⟨#[32, 70, 82, 79, 77, 32]⟩) w (by (try simp only [ByteArray.size_append]); have k0 : (⟨#[83, 69, 76, 69, 67, 84, 32]⟩ : ByteArray).size = 7 := rfl; have k1 : (⟨#[32, 70, 82, 79, 77, 32]⟩ : ByteArray).size = 6 := rfl; omega)
    have a2 := fun (w : World) => add_run (a := (⟨#[83, 69, 76, 69, 67, 84, 32]⟩ ++ t1 ++ ⟨#[32, 70, 82, 79, 77, 32]⟩)) (b := tb) w (by (try simp only [ByteArray.size_append]); have k0 : (⟨#[83, 69, 76, 69, 67, 84, 32]⟩ : ByteArray).size = 7 := rfl; have k1 : (⟨#[32, 70, 82, 79, 77, 32]⟩ : ByteArray).size = 6 := rfl; omega)
    refine wp_region_quiet_below (by kernel_rfl) (by kernel_rfl) ?_
    repeat (go_big_quiet_step (first | (with_reducible exact Calls.regrown_of (c0 _ _))))
    refine wpQuiet_nil ?_
    intro w5 hw5
    obtain ⟨p, rfl⟩ := hw5
    replace HX := Lib.hid (((below_regrown W p.d p.os).block _ (heap_lt HX.out)).trans HX.out)
    replace HB := Lib.hid (HB.out.trans ((below_regrown W p.d p.os).mono HB.out.size))
    clear c0 y1 y7 a0 a1 a2
    generalize (grow (redrawn W p.d) p.os) = W2 at *
    obtain ⟨x0, x1, x2, x3, x4, x5, x6, x7, x8, x9, x10, x11, x12, x13⟩ := cells14 HX.out
    generalize hs : ((⟨#[83, 69, 76, 69, 67, 84, 32]⟩ : ByteArray) ++ t1 ++ ⟨#[32, 70, 82, 79, 77, 32]⟩ ++ tb) = s3 at *
    have HS3 : Hid (s3.data.toList = wSE ++ T1 ++ wfr ++ tb.data.toList) := Lib.hid (by rw [← hs]; simp [alist, HT1.out, wSE, wfr])
    have s3l : s3.size ≤ 153700 := by rw [← hs]; (try simp only [ByteArray.size_append]); have k0 : (⟨#[83, 69, 76, 69, 67, 84, 32]⟩ : ByteArray).size = 7 := rfl; have k1 : (⟨#[32, 70, 82, 79, 77, 32]⟩ : ByteArray).size = 6 := rfl; omega
    clear hs
    have hE2 : (!jn.toList.isEmpty) = false := by rw [hE]; rfl
    have hE3 : jn.toList = [] := List.isEmpty_iff.1 hE
    have HS4 : Hid (s3.data.toList = wSE ++ T1 ++ wfr ++ tb.data.toList ++ joinT jn ++ T2) := Lib.hid (by rw [HS3.out, HJ.out rfl]; unfold joinT; rw [HE.out]; simp)
    have s4l : s3.size ≤ 170000 := by omega
    go_upto_region 4 with fail
    clear hE hE2 hE3
    generalize s3 = s4 at *
    clear HJ HS3
    have hbr := fun d os => HB.out.trans ((below_regrown W2 d os).mono HB.out.size)
    have c0 := fun d os => HW.out (grow (redrawn W2 d) os) (hbr d os)
    have c1 := fun d os => HG.out (grow (redrawn W2 d) os) (hbr d os)
    clear hbr
    have y10 := cell_regrown x10
    have y11 := cell_regrown x11
    clear x0 x1 x2 x3 x4 x5 x6 x7 x8 x9 x10 x11 x12 x13
    have a0 := fun (w : World) => add_run (a := s4) (b := t3) w (by (try simp only [ByteArray.size_append]); omega)
    have a1 := fun (w : World) => add_run (a := (s4 ++ t3)) (b := t4) w (by (try simp only [ByteArray.size_append]); omega)
    refine wp_region_quiet_below (by kernel_rfl) (by kernel_rfl) ?_
    repeat (go_big_quiet_step (first | (with_reducible exact Calls.regrown_of (c0 _ _)) | (with_reducible exact Calls.regrown_of (c1 _ _))))
    refine wpQuiet_nil ?_
    intro w5 hw5
    obtain ⟨p, rfl⟩ := hw5
    replace HX := Lib.hid (((below_regrown W2 p.d p.os).block _ (heap_lt HX.out)).trans HX.out)
    replace HB := Lib.hid (HB.out.trans ((below_regrown W2 p.d p.os).mono HB.out.size))
    clear c0 c1 y10 y11 a0 a1
    generalize (grow (redrawn W2 p.d) p.os) = W4 at *
    obtain ⟨x0, x1, x2, x3, x4, x5, x6, x7, x8, x9, x10, x11, x12, x13⟩ := cells14 HX.out
    generalize hs : (s4 ++ t3 ++ t4) = s5 at *
    have HS5 : Hid (s5.data.toList = wSE ++ T1 ++ wfr ++ tb.data.toList ++ joinT jn ++ T2 ++ T3 ++ T4) := Lib.hid (by rw [← hs]; simp [alist, HT3.out, HT4.out, HS4.out])
    have s5l : s5.size ≤ 200000 := by rw [← hs]; simp only [ByteArray.size_append]; omega
    clear hs s4l q1l q2l q3l q4l HT1 HT2 HT3 HT4 HI HO HW HG HS4 HE
    generalize hZ : (wSE ++ T1 ++ wfr ++ tb.data.toList ++ joinT jn ++ T2 ++ T3 ++ T4) = Z at *
    have HZ := Lib.hid hZ
    clear hZ
    go_wp2_with fail
    go_loopw [3, 4] (fun v i wr => ∃ (y : ByteArray) (j : Nat), v = .string y ∧ i = .int .i64 j ∧ j ≤ ord.length ∧ y.data.toList = Z ++ partL wor ordT (ord.take j) ∧ y.size ≤ 200000 + j * 40 ∧ wr.heap[w.heap.size]? = some (.cells #[.int .i64 kind, .string tb, .slice aC cols.length ac1, .string key, .string ix, .slice aR rows.length ac2, .slice aS sets.length ac3, .slice aI items.length ac4, .string jn, .slice aO on.length ac5, .slice aW wh.length ac6, .slice aG gr.length ac7, .slice aD ord.length ac8, .int .i64 lim] 28 (0, 0)) ∧ Below w.heap.size w wr) (fun _ i _ => ord.length - (intOf i).toNat)
    case atStart => exact ⟨s5, 0, rfl, rfl, Nat.zero_le _, by rw [HS5.out]; simp [partL], by omega, HX.out, HB.out⟩
    case round =>
      clear HX HB HS5 s5l x0 x1 x2 x3 x4 x5 x6 x7 x8 x9 x10 x11 x12 x13
      obtain ⟨y, j, rfl, rfl, hj, hy, hyz, hX, hb⟩ := hrel
      have HY := Lib.hid hy
      have HB := Lib.hid hb
      have HX := Lib.hid hX
      clear hy hb hX
      obtain ⟨x0, x1, x2, x3, x4, x5, x6, x7, x8, x9, x10, x11, x12, x13⟩ := cells14 HX.out
      rcases Nat.lt_or_ge j ord.length with hlt | hge
      · obtain ⟨ad, rfl, p0, p1⟩ := (RdK.below KO_ok HRD.out HB.out).ord (j := j) hlt
        have hod := HD.out ord[j] (List.getElem_mem hlt)
        have HS := Lib.hid (part_next wor ordT ord j ord[j] (List.getElem?_eq_getElem hlt))
        clear HRD HD
        generalize ord[j] = c at *
        obtain ⟨k, d⟩ := c
        obtain ⟨hk0, hk1⟩ := hod
        dsimp only at p0 p1 hk0 hk1
        obtain ⟨k, rfl⟩ := Int.eq_ofNat_of_zero_le hk0
        have hDL := dec_le (n := k) (by omega)
        have HDC := Lib.hid fun (w' : World) => rDecimal_any k (by omega) w'
        have HOT : Hid (ordT ⟨(k : Int), d⟩ = dec k ++ if d = true then wde else []) := Lib.hid rfl
        have hdz : (⟨(dec k).toArray⟩ : ByteArray).size ≤ 20 := by rw [← bsz]; exact hDL
        have HDD : Hid ((⟨(dec k).toArray⟩ : ByteArray).data.toList = dec k) := Lib.hid rfl
        generalize (⟨(dec k).toArray⟩ : ByteArray) = D at *
        generalize dec k = DL at *
        clear hDL hk0
        rcases Nat.eq_zero_or_pos j with h0 | h0
        · have hd : ((j : Int) == 0) = true := by simp [h0]
          have hd2 : (j == 0) = true := by simp [h0]
          have H0 := Lib.hid h0
          have hj0 : j ≤ 0 := by omega
          clear h0
          cases d
          · go_wp2_with (go_at_call 78; refine (HDC.out _).mono ?_; rintro e w1 ⟨rfl, hb⟩; have HX1 := Lib.hid ((hb.block _ (heap_lt HX.out)).trans HX.out); have HB1 := Lib.hid (below_call hb HB.out HB.out.size); replace p0 := cell_keep p0 hb; replace p1 := cell_keep p1 hb; clear hb HX HB x0 x1 x2 x3 x4 x5 x6 x7 x8 x9 x10 x11 x12 x13; obtain ⟨x0, x1, x2, x3, x4, x5, x6, x7, x8, x9, x10, x11, x12, x13⟩ := cells14 HX1.out)
            go_roundw
            case rel => exact ⟨_, j + 1, rfl, by go_num, hlt, by rw [HS.out, if_pos H0.out, HOT.out]; simp [alist, HY.out, HDD.out, wor, wcm, wde], by (try simp only [ByteArray.size_append]); have k0 : (⟨#[32, 79, 82, 68, 69, 82, 32, 66, 89, 32]⟩ : ByteArray).size = 10 := rfl; omega, HX1.out, HB1.out⟩
            case measure => simp [intOf]; omega
          · go_wp2_with (go_at_call 78; refine (HDC.out _).mono ?_; rintro e w1 ⟨rfl, hb⟩; have HX1 := Lib.hid ((hb.block _ (heap_lt HX.out)).trans HX.out); have HB1 := Lib.hid (below_call hb HB.out HB.out.size); replace p0 := cell_keep p0 hb; replace p1 := cell_keep p1 hb; clear hb HX HB x0 x1 x2 x3 x4 x5 x6 x7 x8 x9 x10 x11 x12 x13; obtain ⟨x0, x1, x2, x3, x4, x5, x6, x7, x8, x9, x10, x11, x12, x13⟩ := cells14 HX1.out)
            go_roundw
            case rel => exact ⟨_, j + 1, rfl, by go_num, hlt, by rw [HS.out, if_pos H0.out, HOT.out]; simp [alist, HY.out, HDD.out, wor, wcm, wde], by (try simp only [ByteArray.size_append]); have k0 : (⟨#[32, 79, 82, 68, 69, 82, 32, 66, 89, 32]⟩ : ByteArray).size = 10 := rfl; have k1 : (⟨#[32, 68, 69, 83, 67]⟩ : ByteArray).size = 5 := rfl; omega, HX1.out, HB1.out⟩
            case measure => simp [intOf]; omega
        · have hd : ((j : Int) == 0) = false := by rw [beq_eq_false_iff_ne]; omega
          have hd2 : (j == 0) = false := by rw [beq_eq_false_iff_ne]; omega
          have H0 := Lib.hid (show ¬ j = 0 by omega)
          cases d
          · go_wp2_with (go_at_call 78; refine (HDC.out _).mono ?_; rintro e w1 ⟨rfl, hb⟩; have HX1 := Lib.hid ((hb.block _ (heap_lt HX.out)).trans HX.out); have HB1 := Lib.hid (below_call hb HB.out HB.out.size); replace p0 := cell_keep p0 hb; replace p1 := cell_keep p1 hb; clear hb HX HB x0 x1 x2 x3 x4 x5 x6 x7 x8 x9 x10 x11 x12 x13; obtain ⟨x0, x1, x2, x3, x4, x5, x6, x7, x8, x9, x10, x11, x12, x13⟩ := cells14 HX1.out)
            go_roundw
            case rel => exact ⟨_, j + 1, rfl, by go_num, hlt, by rw [HS.out, if_neg H0.out, HOT.out]; simp [alist, HY.out, HDD.out, wor, wcm, wde], by (try simp only [ByteArray.size_append]); have k0 : (⟨#[44, 32]⟩ : ByteArray).size = 2 := rfl; omega, HX1.out, HB1.out⟩
            case measure => simp [intOf]; omega
          · go_wp2_with (go_at_call 78; refine (HDC.out _).mono ?_; rintro e w1 ⟨rfl, hb⟩; have HX1 := Lib.hid ((hb.block _ (heap_lt HX.out)).trans HX.out); have HB1 := Lib.hid (below_call hb HB.out HB.out.size); replace p0 := cell_keep p0 hb; replace p1 := cell_keep p1 hb; clear hb HX HB x0 x1 x2 x3 x4 x5 x6 x7 x8 x9 x10 x11 x12 x13; obtain ⟨x0, x1, x2, x3, x4, x5, x6, x7, x8, x9, x10, x11, x12, x13⟩ := cells14 HX1.out)
            go_roundw
            case rel => exact ⟨_, j + 1, rfl, by go_num, hlt, by rw [HS.out, if_neg H0.out, HOT.out]; simp [alist, HY.out, HDD.out, wor, wcm, wde], by (try simp only [ByteArray.size_append]); have k0 : (⟨#[44, 32]⟩ : ByteArray).size = 2 := rfl; have k1 : (⟨#[32, 68, 69, 83, 67]⟩ : ByteArray).size = 5 := rfl; omega, HX1.out, HB1.out⟩
            case measure => simp [intOf]; omega
      · have HEq : Hid (ord.take j = ord) := Lib.hid (List.take_of_length_le (by omega))
        rcases (show lim = -1 ∨ 0 ≤ lim by omega) with hl | hl
        · have hd : decide ((0 : Int) ≤ lim) = false := by simp; omega
          have HLm : Hid (limT lim = []) := Lib.hid (by unfold limT; rw [if_pos hl])
          have hl2 : lim < 0 := by omega
          clear hl
          go_wp2_with fail
          go_ret
          exact ⟨ret_str (ba_ext (by rw [HY.out, HEq.out, HLm.out, ← HZ.out]; simp)), HB.out⟩
        · obtain ⟨m, rfl⟩ := Int.eq_ofNat_of_zero_le hl
          have hd : decide ((0 : Int) ≤ (m : Int)) = true := by simp
          have HLm : Hid (limT (m : Int) = wli ++ dec m) := Lib.hid (by unfold limT; rw [if_neg (by omega)]; rfl)
          have hDL := dec_le (n := m) (by omega)
          have HDC := Lib.hid fun (w' : World) => rDecimal_any m (by omega) w'
          have hdz : (⟨(dec m).toArray⟩ : ByteArray).size ≤ 20 := by rw [← bsz]; exact hDL
          have HDD : Hid ((⟨(dec m).toArray⟩ : ByteArray).data.toList = dec m) := Lib.hid rfl
          generalize (⟨(dec m).toArray⟩ : ByteArray) = D at *
          generalize dec m = DL at *
          clear hDL
          have hyz2 : y.size ≤ 300000 := by omega
          go_wp2_with (go_at_call 78; refine (HDC.out _).mono ?_; rintro e w1 ⟨rfl, hb⟩; have HB1 := Lib.hid (below_call hb HB.out HB.out.size); clear hb)
          go_ret
          exact ⟨ret_str (ba_ext (by rw [HLm.out]; simp [alist, HY.out, HEq.out, HDD.out, wli, ← HZ.out])), HB1.out⟩
end Go.Proofs.YtnbgnofbeklmkaaGreatDoor
/- The reference's Print, at every statement: the walks. Conditions: a statement that is read in memory. -/
namespace Go.Proofs.YtnbgnofbeklmkaaGreatDoor
open Go.RowKit Go.Sort
set_option linter.unusedSimpArgs false
set_option linter.unusedVariables false

theorem ret_pair {a b : ByteArray} {v : Value} (h : a = b) : Ending.returned (.tuple #[.string a, v]) = .returned (.tuple #[.string b, v]) := by rw [h]
theorem sel_ok {n : Nat} {x : St n} (h : StPr x) (hk : x.kind = 7) : SelOk x := by
  obtain ⟨l1, l2, l3, l4, l5, l6, l7, l8⟩ := all_len h.ok
  have hi := items_pos h.ok hk
  have f := h.ok.fm
  have g : (-1 ≤ x.lim ∧ x.lim ≤ 2147483648) ∧ (emp x.jn = true → x.on = []) := by
    obtain ⟨kind, tb, cols, key, ix, rows, sets, items, jn, on, wh, gr, ord, lim⟩ := x
    dsimp only at hk
    subst hk
    simp [formedB, namedB, countedB, onN, hasNm, gL, gH, gTab, spB] at f
    refine ⟨by grind, fun he => ?_⟩
    have he2 : jn.toList = [] := List.isEmpty_iff.1 he
    rw [if_pos he2] at f
    have g : (on.length : Int) ≤ 0 := by grind
    show on = []
    exact List.eq_nil_of_length_eq_zero (by omega)
  exact ⟨h.tb, h.jn, h.ok.items, h.ok.on, h.ok.wh, h.ok.gr, h.ord, ⟨hi, l4⟩, l5, l6, l7, l8, g.1, g.2⟩
/-- What Print is to answer. -/
def PrT {n : Nat} (x : St n) (w : World) (e : Ending) (w' : World) : Prop := e = .returned (.tuple #[.string ⟨(stL x).toArray⟩, .int .i64 0]) ∧ Below w.heap.size w w'

set_option maxHeartbeats 8000000 in
set_option maxRecDepth 100000 in
theorem rPrint_1 {n : Nat} (x : St n) (h : Hs) (w : World) (hr : RdSt Any w x h) (hp : StPr x) (hz : chkSt x = 0) (hk : x.kind = 1) : Calls Tryz.prog 13 #[x.val h] w (PrT x w) := by
  have HC := Lib.hid fun (w' : World) (hb : Below w.heap.size w w') => (by have g := rCheck_any x h w' (hr.below hb); rw [hz] at g; exact g : Calls Tryz.prog 16 #[x.val h] w' fun e w2 => e = .returned (.int .i64 0) ∧ Below w'.heap.size w' w2)
  have htb := hp.tb
  have hkey := hp.key
  have hix := hp.ix
  have HT : Hid (stL x = wCT ++ (x.tb.data.toList ++ (wop ++ (colsT x.cols ++ (wpk ++ (x.key.data.toList ++ wcc)))))) := Lib.hid (by unfold stL; simp [hk])
  obtain ⟨l1, l2, l3, l4, l5, l6, l7, l8⟩ := all_len hp.ok
  have HL := Lib.hid fun (w' : World) (hb : Below w.heap.size w w') => rcolumns_any x h hp.cols w' (hr.below hb) l1
  have tl : (colsT x.cols).length ≤ 400 := by have := colsT_len (List.all_eq_true.2 hp.cols); omega
  unfold PrT
  clear hr hp hz
  rw [HT.out]
  obtain ⟨kind, tb, cols, key, ix, rows, sets, items, jn, on, wh, gr, ord, lim⟩ := x
  obtain ⟨⟨aC, ac1⟩, ⟨aR, ac2⟩, ⟨aS, ac3⟩, ⟨aI, ac4⟩, ⟨aO, ac5⟩, ⟨aW, ac6⟩, ⟨aG, ac7⟩, ⟨aD, ac8⟩⟩ := h
  dsimp only at hk
  subst hk
  unfold St.val St.cs at *
  dsimp only at *
  clear HT
  go_enter Tryz.func13, Tryz.ntmps13
  go_upto_region 1 with fail
  have HX := Lib.hid (heap_alloc_new w (.cells #[.int .i64 1, .string tb, .slice aC cols.length ac1, .string key, .string ix, .slice aR rows.length ac2, .slice aS sets.length ac3, .slice aI items.length ac4, .string jn, .slice aO on.length ac5, .slice aW wh.length ac6, .slice aG gr.length ac7, .slice aD ord.length ac8, .int .i64 lim] 28))
  have HB := Lib.hid (below1 w (.cells #[.int .i64 1, .string tb, .slice aC cols.length ac1, .string key, .string ix, .slice aR rows.length ac2, .slice aS sets.length ac3, .slice aI items.length ac4, .string jn, .slice aO on.length ac5, .slice aW wh.length ac6, .slice aG gr.length ac7, .slice aD ord.length ac8, .int .i64 lim] 28))
  generalize (w.alloc (.cells #[.int .i64 1, .string tb, .slice aC cols.length ac1, .string key, .string ix, .slice aR rows.length ac2, .slice aS sets.length ac3, .slice aI items.length ac4, .string jn, .slice aO on.length ac5, .slice aW wh.length ac6, .slice aG gr.length ac7, .slice aD ord.length ac8, .int .i64 lim] 28)) = W at *
  obtain ⟨x0, x1, x2, x3, x4, x5, x6, x7, x8, x9, x10, x11, x12, x13⟩ := cells14 HX.out
  have HT1 : Hid ((⟨(colsT cols).toArray⟩ : ByteArray).data.toList = colsT cols) := Lib.hid rfl
  have q1l : (⟨(colsT cols).toArray⟩ : ByteArray).size ≤ 400 := by rw [← bsz]; exact tl
  clear tl
  generalize (⟨(colsT cols).toArray⟩ : ByteArray) = t1 at *
  go_upto_region 6 with (go_at_call 16; refine (HC.out _ HB.out).mono ?_; rintro e w1 ⟨rfl, hb⟩; replace HX := Lib.hid ((hb.block _ (heap_lt HX.out)).trans HX.out); replace HB := Lib.hid (below_call hb HB.out HB.out.size); clear hb x0 x1 x2 x3 x4 x5 x6 x7 x8 x9 x10 x11 x12 x13; obtain ⟨x0, x1, x2, x3, x4, x5, x6, x7, x8, x9, x10, x11, x12, x13⟩ := cells14 HX.out)
  have hbr := fun d os => HB.out.trans ((below_regrown w1 d os).mono HB.out.size)
  have c0 := fun d os => HL.out (grow (redrawn w1 d) os) (hbr d os)
  clear hbr
  have y0 := cell_regrown x0
  have y1 := cell_regrown x1
  have y2 := cell_regrown x2
  have y3 := cell_regrown x3
  have y4 := cell_regrown x4
  have y5 := cell_regrown x5
  have y6 := cell_regrown x6
  have y7 := cell_regrown x7
  have y8 := cell_regrown x8
  have y9 := cell_regrown x9
  have y10 := cell_regrown x10
  have y11 := cell_regrown x11
  have y12 := cell_regrown x12
  have y13 := cell_regrown x13
  clear x0 x1 x2 x3 x4 x5 x6 x7 x8 x9 x10 x11 x12 x13
  have a0 := fun (w : World) => add_run (a := ⟨#[67, 82, 69, 65, 84, 69, 32, 84, 65, 66, 76, 69, 32]⟩) (b := tb) w (by (try simp only [ByteArray.size_append]); have k0 : (⟨#[67, 82, 69, 65, 84, 69, 32, 84, 65, 66, 76, 69, 32]⟩ : ByteArray).size = 13 := rfl; have k1 : (⟨#[32, 40]⟩ : ByteArray).size = 2 := rfl; have k2 : (⟨#[80, 82, 73, 77, 65, 82, 89, 32, 75, 69, 89, 32, 40]⟩ : ByteArray).size = 13 := rfl; have k3 : (⟨#[41, 41]⟩ : ByteArray).size = 2 := rfl; omega)
  have a1 := fun (w : World) => add_run (a := (⟨#[67, 82, 69, 65, 84, 69, 32, 84, 65, 66, 76, 69, 32]⟩ ++ tb)) (b := ⟨#[32, 40]⟩) w (by (try simp only [ByteArray.size_append]); have k0 : (⟨#[67, 82, 69, 65, 84, 69, 32, 84, 65, 66, 76, 69, 32]⟩ : ByteArray).size = 13 := rfl; have k1 : (⟨#[32, 40]⟩ : ByteArray).size = 2 := rfl; have k2 : (⟨#[80, 82, 73, 77, 65, 82, 89, 32, 75, 69, 89, 32, 40]⟩ : ByteArray).size = 13 := rfl; have k3 : (⟨#[41, 41]⟩ : ByteArray).size = 2 := rfl; omega)
  have a2 := fun (w : World) => add_run (a := ((⟨#[67, 82, 69, 65, 84, 69, 32, 84, 65, 66, 76, 69, 32]⟩ ++ tb) ++ ⟨#[32, 40]⟩)) (b := t1) w (by (try simp only [ByteArray.size_append]); have k0 : (⟨#[67, 82, 69, 65, 84, 69, 32, 84, 65, 66, 76, 69, 32]⟩ : ByteArray).size = 13 := rfl; have k1 : (⟨#[32, 40]⟩ : ByteArray).size = 2 := rfl; have k2 : (⟨#[80, 82, 73, 77, 65, 82, 89, 32, 75, 69, 89, 32, 40]⟩ : ByteArray).size = 13 := rfl; have k3 : (⟨#[41, 41]⟩ : ByteArray).size = 2 := rfl; omega)
  have a3 := fun (w : World) => add_run (a := (((⟨#[67, 82, 69, 65, 84, 69, 32, 84, 65, 66, 76, 69, 32]⟩ ++ tb) ++ ⟨#[32, 40]⟩) ++ t1)) (b := ⟨#[80, 82, 73, 77, 65, 82, 89, 32, 75, 69, 89, 32, 40]⟩) w (by (try simp only [ByteArray.size_append]); have k0 : (⟨#[67, 82, 69, 65, 84, 69, 32, 84, 65, 66, 76, 69, 32]⟩ : ByteArray).size = 13 := rfl; have k1 : (⟨#[32, 40]⟩ : ByteArray).size = 2 := rfl; have k2 : (⟨#[80, 82, 73, 77, 65, 82, 89, 32, 75, 69, 89, 32, 40]⟩ : ByteArray).size = 13 := rfl; have k3 : (⟨#[41, 41]⟩ : ByteArray).size = 2 := rfl; omega)
  have a4 := fun (w : World) => add_run (a := ((((⟨#[67, 82, 69, 65, 84, 69, 32, 84, 65, 66, 76, 69, 32]⟩ ++ tb) ++ ⟨#[32, 40]⟩) ++ t1) ++ ⟨#[80, 82, 73, 77, 65, 82, 89, 32, 75, 69, 89, 32, 40]⟩)) (b := key) w (by (try simp only [ByteArray.size_append]); have k0 : (⟨#[67, 82, 69, 65, 84, 69, 32, 84, 65, 66, 76, 69, 32]⟩ : ByteArray).size = 13 := rfl; have k1 : (⟨#[32, 40]⟩ : ByteArray).size = 2 := rfl; have k2 : (⟨#[80, 82, 73, 77, 65, 82, 89, 32, 75, 69, 89, 32, 40]⟩ : ByteArray).size = 13 := rfl; have k3 : (⟨#[41, 41]⟩ : ByteArray).size = 2 := rfl; omega)
  have a5 := fun (w : World) => add_run (a := (((((⟨#[67, 82, 69, 65, 84, 69, 32, 84, 65, 66, 76, 69, 32]⟩ ++ tb) ++ ⟨#[32, 40]⟩) ++ t1) ++ ⟨#[80, 82, 73, 77, 65, 82, 89, 32, 75, 69, 89, 32, 40]⟩) ++ key)) (b := ⟨#[41, 41]⟩) w (by (try simp only [ByteArray.size_append]); have k0 : (⟨#[67, 82, 69, 65, 84, 69, 32, 84, 65, 66, 76, 69, 32]⟩ : ByteArray).size = 13 := rfl; have k1 : (⟨#[32, 40]⟩ : ByteArray).size = 2 := rfl; have k2 : (⟨#[80, 82, 73, 77, 65, 82, 89, 32, 75, 69, 89, 32, 40]⟩ : ByteArray).size = 13 := rfl; have k3 : (⟨#[41, 41]⟩ : ByteArray).size = 2 := rfl; omega)
  refine wp_region_quiet_below (by kernel_rfl) (by kernel_rfl) ?_
  repeat (go_big_quiet_step (first | (with_reducible exact Calls.regrown_of (c0 _ _))))
  refine wpQuiet_nil ?_
  intro w5 hw5
  obtain ⟨p, rfl⟩ := hw5
  replace HX := Lib.hid (((below_regrown w1 p.d p.os).block _ (heap_lt HX.out)).trans HX.out)
  replace HB := Lib.hid (HB.out.trans ((below_regrown w1 p.d p.os).mono HB.out.size))
  clear c0 y0 y1 y2 y3 y4 y5 y6 y7 y8 y9 y10 y11 y12 y13 a0 a1 a2 a3 a4 a5
  generalize (grow (redrawn w1 p.d) p.os) = W2 at *
  obtain ⟨x0, x1, x2, x3, x4, x5, x6, x7, x8, x9, x10, x11, x12, x13⟩ := cells14 HX.out
  go_wp2_with fail
  go_ret2
  exact ⟨ret_pair (ba_ext (by simp [alist, HT1.out, wCT, wCI, wDT, wII, wUP, wDF, wBE, wCO, wRO, wop, wcl, wpk, wcc, won, wva, wst, wwh, weq, wbk, wcm])), HB.out⟩
set_option maxHeartbeats 8000000 in
set_option maxRecDepth 100000 in
theorem rPrint_2 {n : Nat} (x : St n) (h : Hs) (w : World) (hr : RdSt Any w x h) (hp : StPr x) (hz : chkSt x = 0) (hk : x.kind = 2) : Calls Tryz.prog 13 #[x.val h] w (PrT x w) := by
  have HC := Lib.hid fun (w' : World) (hb : Below w.heap.size w w') => (by have g := rCheck_any x h w' (hr.below hb); rw [hz] at g; exact g : Calls Tryz.prog 16 #[x.val h] w' fun e w2 => e = .returned (.int .i64 0) ∧ Below w'.heap.size w' w2)
  have htb := hp.tb
  have hkey := hp.key
  have hix := hp.ix
  have HT : Hid (stL x = wCI ++ (x.ix.data.toList ++ (won ++ (x.tb.data.toList ++ (wop ++ (x.key.data.toList ++ wcl)))))) := Lib.hid (by unfold stL; simp [hk])
  obtain ⟨l1, l2, l3, l4, l5, l6, l7, l8⟩ := all_len hp.ok
  unfold PrT
  clear hr hp hz
  rw [HT.out]
  obtain ⟨kind, tb, cols, key, ix, rows, sets, items, jn, on, wh, gr, ord, lim⟩ := x
  obtain ⟨⟨aC, ac1⟩, ⟨aR, ac2⟩, ⟨aS, ac3⟩, ⟨aI, ac4⟩, ⟨aO, ac5⟩, ⟨aW, ac6⟩, ⟨aG, ac7⟩, ⟨aD, ac8⟩⟩ := h
  dsimp only at hk
  subst hk
  unfold St.val St.cs at *
  dsimp only at *
  clear HT
  go_enter Tryz.func13, Tryz.ntmps13
  go_upto_region 1 with fail
  have HX := Lib.hid (heap_alloc_new w (.cells #[.int .i64 2, .string tb, .slice aC cols.length ac1, .string key, .string ix, .slice aR rows.length ac2, .slice aS sets.length ac3, .slice aI items.length ac4, .string jn, .slice aO on.length ac5, .slice aW wh.length ac6, .slice aG gr.length ac7, .slice aD ord.length ac8, .int .i64 lim] 28))
  have HB := Lib.hid (below1 w (.cells #[.int .i64 2, .string tb, .slice aC cols.length ac1, .string key, .string ix, .slice aR rows.length ac2, .slice aS sets.length ac3, .slice aI items.length ac4, .string jn, .slice aO on.length ac5, .slice aW wh.length ac6, .slice aG gr.length ac7, .slice aD ord.length ac8, .int .i64 lim] 28))
  generalize (w.alloc (.cells #[.int .i64 2, .string tb, .slice aC cols.length ac1, .string key, .string ix, .slice aR rows.length ac2, .slice aS sets.length ac3, .slice aI items.length ac4, .string jn, .slice aO on.length ac5, .slice aW wh.length ac6, .slice aG gr.length ac7, .slice aD ord.length ac8, .int .i64 lim] 28)) = W at *
  obtain ⟨x0, x1, x2, x3, x4, x5, x6, x7, x8, x9, x10, x11, x12, x13⟩ := cells14 HX.out
  go_wp2_with (go_at_call 16; refine (HC.out _ HB.out).mono ?_; rintro e w1 ⟨rfl, hb⟩; replace HX := Lib.hid ((hb.block _ (heap_lt HX.out)).trans HX.out); replace HB := Lib.hid (below_call hb HB.out HB.out.size); clear hb x0 x1 x2 x3 x4 x5 x6 x7 x8 x9 x10 x11 x12 x13; obtain ⟨x0, x1, x2, x3, x4, x5, x6, x7, x8, x9, x10, x11, x12, x13⟩ := cells14 HX.out; have hzl := heap_lt HX.out)
  go_ret2
  exact ⟨ret_pair (ba_ext (by simp [alist, wCT, wCI, wDT, wII, wUP, wDF, wBE, wCO, wRO, wop, wcl, wpk, wcc, won, wva, wst, wwh, weq, wbk, wcm])), HB.out⟩
set_option maxHeartbeats 8000000 in
set_option maxRecDepth 100000 in
theorem rPrint_3 {n : Nat} (x : St n) (h : Hs) (w : World) (hr : RdSt Any w x h) (hp : StPr x) (hz : chkSt x = 0) (hk : x.kind = 3) : Calls Tryz.prog 13 #[x.val h] w (PrT x w) := by
  have HC := Lib.hid fun (w' : World) (hb : Below w.heap.size w w') => (by have g := rCheck_any x h w' (hr.below hb); rw [hz] at g; exact g : Calls Tryz.prog 16 #[x.val h] w' fun e w2 => e = .returned (.int .i64 0) ∧ Below w'.heap.size w' w2)
  have htb := hp.tb
  have hkey := hp.key
  have hix := hp.ix
  have HT : Hid (stL x = wDT ++ x.tb.data.toList) := Lib.hid (by unfold stL; simp [hk])
  obtain ⟨l1, l2, l3, l4, l5, l6, l7, l8⟩ := all_len hp.ok
  unfold PrT
  clear hr hp hz
  rw [HT.out]
  obtain ⟨kind, tb, cols, key, ix, rows, sets, items, jn, on, wh, gr, ord, lim⟩ := x
  obtain ⟨⟨aC, ac1⟩, ⟨aR, ac2⟩, ⟨aS, ac3⟩, ⟨aI, ac4⟩, ⟨aO, ac5⟩, ⟨aW, ac6⟩, ⟨aG, ac7⟩, ⟨aD, ac8⟩⟩ := h
  dsimp only at hk
  subst hk
  unfold St.val St.cs at *
  dsimp only at *
  clear HT
  go_enter Tryz.func13, Tryz.ntmps13
  go_upto_region 1 with fail
  have HX := Lib.hid (heap_alloc_new w (.cells #[.int .i64 3, .string tb, .slice aC cols.length ac1, .string key, .string ix, .slice aR rows.length ac2, .slice aS sets.length ac3, .slice aI items.length ac4, .string jn, .slice aO on.length ac5, .slice aW wh.length ac6, .slice aG gr.length ac7, .slice aD ord.length ac8, .int .i64 lim] 28))
  have HB := Lib.hid (below1 w (.cells #[.int .i64 3, .string tb, .slice aC cols.length ac1, .string key, .string ix, .slice aR rows.length ac2, .slice aS sets.length ac3, .slice aI items.length ac4, .string jn, .slice aO on.length ac5, .slice aW wh.length ac6, .slice aG gr.length ac7, .slice aD ord.length ac8, .int .i64 lim] 28))
  generalize (w.alloc (.cells #[.int .i64 3, .string tb, .slice aC cols.length ac1, .string key, .string ix, .slice aR rows.length ac2, .slice aS sets.length ac3, .slice aI items.length ac4, .string jn, .slice aO on.length ac5, .slice aW wh.length ac6, .slice aG gr.length ac7, .slice aD ord.length ac8, .int .i64 lim] 28)) = W at *
  obtain ⟨x0, x1, x2, x3, x4, x5, x6, x7, x8, x9, x10, x11, x12, x13⟩ := cells14 HX.out
  go_wp2_with (go_at_call 16; refine (HC.out _ HB.out).mono ?_; rintro e w1 ⟨rfl, hb⟩; replace HX := Lib.hid ((hb.block _ (heap_lt HX.out)).trans HX.out); replace HB := Lib.hid (below_call hb HB.out HB.out.size); clear hb x0 x1 x2 x3 x4 x5 x6 x7 x8 x9 x10 x11 x12 x13; obtain ⟨x0, x1, x2, x3, x4, x5, x6, x7, x8, x9, x10, x11, x12, x13⟩ := cells14 HX.out; have hzl := heap_lt HX.out)
  go_ret2
  exact ⟨ret_pair (ba_ext (by simp [alist, wCT, wCI, wDT, wII, wUP, wDF, wBE, wCO, wRO, wop, wcl, wpk, wcc, won, wva, wst, wwh, weq, wbk, wcm])), HB.out⟩
set_option maxHeartbeats 8000000 in
set_option maxRecDepth 100000 in
theorem rPrint_8 {n : Nat} (x : St n) (h : Hs) (w : World) (hr : RdSt Any w x h) (hp : StPr x) (hz : chkSt x = 0) (hk : x.kind = 8) : Calls Tryz.prog 13 #[x.val h] w (PrT x w) := by
  have HC := Lib.hid fun (w' : World) (hb : Below w.heap.size w w') => (by have g := rCheck_any x h w' (hr.below hb); rw [hz] at g; exact g : Calls Tryz.prog 16 #[x.val h] w' fun e w2 => e = .returned (.int .i64 0) ∧ Below w'.heap.size w' w2)
  have htb := hp.tb
  have hkey := hp.key
  have hix := hp.ix
  have HT : Hid (stL x = wBE) := Lib.hid (by unfold stL; simp [hk])
  obtain ⟨l1, l2, l3, l4, l5, l6, l7, l8⟩ := all_len hp.ok
  unfold PrT
  clear hr hp hz
  rw [HT.out]
  obtain ⟨kind, tb, cols, key, ix, rows, sets, items, jn, on, wh, gr, ord, lim⟩ := x
  obtain ⟨⟨aC, ac1⟩, ⟨aR, ac2⟩, ⟨aS, ac3⟩, ⟨aI, ac4⟩, ⟨aO, ac5⟩, ⟨aW, ac6⟩, ⟨aG, ac7⟩, ⟨aD, ac8⟩⟩ := h
  dsimp only at hk
  subst hk
  unfold St.val St.cs at *
  dsimp only at *
  clear HT
  go_enter Tryz.func13, Tryz.ntmps13
  go_upto_region 1 with fail
  have HX := Lib.hid (heap_alloc_new w (.cells #[.int .i64 8, .string tb, .slice aC cols.length ac1, .string key, .string ix, .slice aR rows.length ac2, .slice aS sets.length ac3, .slice aI items.length ac4, .string jn, .slice aO on.length ac5, .slice aW wh.length ac6, .slice aG gr.length ac7, .slice aD ord.length ac8, .int .i64 lim] 28))
  have HB := Lib.hid (below1 w (.cells #[.int .i64 8, .string tb, .slice aC cols.length ac1, .string key, .string ix, .slice aR rows.length ac2, .slice aS sets.length ac3, .slice aI items.length ac4, .string jn, .slice aO on.length ac5, .slice aW wh.length ac6, .slice aG gr.length ac7, .slice aD ord.length ac8, .int .i64 lim] 28))
  generalize (w.alloc (.cells #[.int .i64 8, .string tb, .slice aC cols.length ac1, .string key, .string ix, .slice aR rows.length ac2, .slice aS sets.length ac3, .slice aI items.length ac4, .string jn, .slice aO on.length ac5, .slice aW wh.length ac6, .slice aG gr.length ac7, .slice aD ord.length ac8, .int .i64 lim] 28)) = W at *
  obtain ⟨x0, x1, x2, x3, x4, x5, x6, x7, x8, x9, x10, x11, x12, x13⟩ := cells14 HX.out
  go_wp2_with (go_at_call 16; refine (HC.out _ HB.out).mono ?_; rintro e w1 ⟨rfl, hb⟩; replace HX := Lib.hid ((hb.block _ (heap_lt HX.out)).trans HX.out); replace HB := Lib.hid (below_call hb HB.out HB.out.size); clear hb x0 x1 x2 x3 x4 x5 x6 x7 x8 x9 x10 x11 x12 x13; obtain ⟨x0, x1, x2, x3, x4, x5, x6, x7, x8, x9, x10, x11, x12, x13⟩ := cells14 HX.out; have hzl := heap_lt HX.out)
  go_ret2
  exact ⟨rfl, HB.out.alloc HB.out.size _⟩
set_option maxHeartbeats 8000000 in
set_option maxRecDepth 100000 in
theorem rPrint_9 {n : Nat} (x : St n) (h : Hs) (w : World) (hr : RdSt Any w x h) (hp : StPr x) (hz : chkSt x = 0) (hk : x.kind = 9) : Calls Tryz.prog 13 #[x.val h] w (PrT x w) := by
  have HC := Lib.hid fun (w' : World) (hb : Below w.heap.size w w') => (by have g := rCheck_any x h w' (hr.below hb); rw [hz] at g; exact g : Calls Tryz.prog 16 #[x.val h] w' fun e w2 => e = .returned (.int .i64 0) ∧ Below w'.heap.size w' w2)
  have htb := hp.tb
  have hkey := hp.key
  have hix := hp.ix
  have HT : Hid (stL x = wCO) := Lib.hid (by unfold stL; simp [hk])
  obtain ⟨l1, l2, l3, l4, l5, l6, l7, l8⟩ := all_len hp.ok
  unfold PrT
  clear hr hp hz
  rw [HT.out]
  obtain ⟨kind, tb, cols, key, ix, rows, sets, items, jn, on, wh, gr, ord, lim⟩ := x
  obtain ⟨⟨aC, ac1⟩, ⟨aR, ac2⟩, ⟨aS, ac3⟩, ⟨aI, ac4⟩, ⟨aO, ac5⟩, ⟨aW, ac6⟩, ⟨aG, ac7⟩, ⟨aD, ac8⟩⟩ := h
  dsimp only at hk
  subst hk
  unfold St.val St.cs at *
  dsimp only at *
  clear HT
  go_enter Tryz.func13, Tryz.ntmps13
  go_upto_region 1 with fail
  have HX := Lib.hid (heap_alloc_new w (.cells #[.int .i64 9, .string tb, .slice aC cols.length ac1, .string key, .string ix, .slice aR rows.length ac2, .slice aS sets.length ac3, .slice aI items.length ac4, .string jn, .slice aO on.length ac5, .slice aW wh.length ac6, .slice aG gr.length ac7, .slice aD ord.length ac8, .int .i64 lim] 28))
  have HB := Lib.hid (below1 w (.cells #[.int .i64 9, .string tb, .slice aC cols.length ac1, .string key, .string ix, .slice aR rows.length ac2, .slice aS sets.length ac3, .slice aI items.length ac4, .string jn, .slice aO on.length ac5, .slice aW wh.length ac6, .slice aG gr.length ac7, .slice aD ord.length ac8, .int .i64 lim] 28))
  generalize (w.alloc (.cells #[.int .i64 9, .string tb, .slice aC cols.length ac1, .string key, .string ix, .slice aR rows.length ac2, .slice aS sets.length ac3, .slice aI items.length ac4, .string jn, .slice aO on.length ac5, .slice aW wh.length ac6, .slice aG gr.length ac7, .slice aD ord.length ac8, .int .i64 lim] 28)) = W at *
  obtain ⟨x0, x1, x2, x3, x4, x5, x6, x7, x8, x9, x10, x11, x12, x13⟩ := cells14 HX.out
  go_wp2_with (go_at_call 16; refine (HC.out _ HB.out).mono ?_; rintro e w1 ⟨rfl, hb⟩; replace HX := Lib.hid ((hb.block _ (heap_lt HX.out)).trans HX.out); replace HB := Lib.hid (below_call hb HB.out HB.out.size); clear hb x0 x1 x2 x3 x4 x5 x6 x7 x8 x9 x10 x11 x12 x13; obtain ⟨x0, x1, x2, x3, x4, x5, x6, x7, x8, x9, x10, x11, x12, x13⟩ := cells14 HX.out; have hzl := heap_lt HX.out)
  go_ret2
  exact ⟨rfl, HB.out.alloc HB.out.size _⟩
set_option maxHeartbeats 8000000 in
set_option maxRecDepth 100000 in
theorem rPrint_10 {n : Nat} (x : St n) (h : Hs) (w : World) (hr : RdSt Any w x h) (hp : StPr x) (hz : chkSt x = 0) (hk : x.kind = 10) : Calls Tryz.prog 13 #[x.val h] w (PrT x w) := by
  have HC := Lib.hid fun (w' : World) (hb : Below w.heap.size w w') => (by have g := rCheck_any x h w' (hr.below hb); rw [hz] at g; exact g : Calls Tryz.prog 16 #[x.val h] w' fun e w2 => e = .returned (.int .i64 0) ∧ Below w'.heap.size w' w2)
  have htb := hp.tb
  have hkey := hp.key
  have hix := hp.ix
  have HT : Hid (stL x = wRO) := Lib.hid (by unfold stL; simp [hk])
  obtain ⟨l1, l2, l3, l4, l5, l6, l7, l8⟩ := all_len hp.ok
  unfold PrT
  clear hr hp hz
  rw [HT.out]
  obtain ⟨kind, tb, cols, key, ix, rows, sets, items, jn, on, wh, gr, ord, lim⟩ := x
  obtain ⟨⟨aC, ac1⟩, ⟨aR, ac2⟩, ⟨aS, ac3⟩, ⟨aI, ac4⟩, ⟨aO, ac5⟩, ⟨aW, ac6⟩, ⟨aG, ac7⟩, ⟨aD, ac8⟩⟩ := h
  dsimp only at hk
  subst hk
  unfold St.val St.cs at *
  dsimp only at *
  clear HT
  go_enter Tryz.func13, Tryz.ntmps13
  go_upto_region 1 with fail
  have HX := Lib.hid (heap_alloc_new w (.cells #[.int .i64 10, .string tb, .slice aC cols.length ac1, .string key, .string ix, .slice aR rows.length ac2, .slice aS sets.length ac3, .slice aI items.length ac4, .string jn, .slice aO on.length ac5, .slice aW wh.length ac6, .slice aG gr.length ac7, .slice aD ord.length ac8, .int .i64 lim] 28))
  have HB := Lib.hid (below1 w (.cells #[.int .i64 10, .string tb, .slice aC cols.length ac1, .string key, .string ix, .slice aR rows.length ac2, .slice aS sets.length ac3, .slice aI items.length ac4, .string jn, .slice aO on.length ac5, .slice aW wh.length ac6, .slice aG gr.length ac7, .slice aD ord.length ac8, .int .i64 lim] 28))
  generalize (w.alloc (.cells #[.int .i64 10, .string tb, .slice aC cols.length ac1, .string key, .string ix, .slice aR rows.length ac2, .slice aS sets.length ac3, .slice aI items.length ac4, .string jn, .slice aO on.length ac5, .slice aW wh.length ac6, .slice aG gr.length ac7, .slice aD ord.length ac8, .int .i64 lim] 28)) = W at *
  obtain ⟨x0, x1, x2, x3, x4, x5, x6, x7, x8, x9, x10, x11, x12, x13⟩ := cells14 HX.out
  go_wp2_with (go_at_call 16; refine (HC.out _ HB.out).mono ?_; rintro e w1 ⟨rfl, hb⟩; replace HX := Lib.hid ((hb.block _ (heap_lt HX.out)).trans HX.out); replace HB := Lib.hid (below_call hb HB.out HB.out.size); clear hb x0 x1 x2 x3 x4 x5 x6 x7 x8 x9 x10 x11 x12 x13; obtain ⟨x0, x1, x2, x3, x4, x5, x6, x7, x8, x9, x10, x11, x12, x13⟩ := cells14 HX.out; have hzl := heap_lt HX.out)
  go_ret2
  exact ⟨rfl, HB.out.alloc HB.out.size _⟩
set_option maxHeartbeats 8000000 in
set_option maxRecDepth 100000 in
theorem rPrint_4 {n : Nat} (x : St n) (h : Hs) (w : World) (hr : RdSt Any w x h) (hp : StPr x) (hz : chkSt x = 0) (hk : x.kind = 4) : Calls Tryz.prog 13 #[x.val h] w (PrT x w) := by
  have HC := Lib.hid fun (w' : World) (hb : Below w.heap.size w w') => (by have g := rCheck_any x h w' (hr.below hb); rw [hz] at g; exact g : Calls Tryz.prog 16 #[x.val h] w' fun e w2 => e = .returned (.int .i64 0) ∧ Below w'.heap.size w' w2)
  have htb := hp.tb
  have hkey := hp.key
  have hix := hp.ix
  have HT : Hid (stL x = wII ++ (x.tb.data.toList ++ partL wva rowT x.rows)) := Lib.hid (by unfold stL; simp [hk])
  obtain ⟨l1, l2, l3, l4, l5, l6, l7, l8⟩ := all_len hp.ok
  have HL := Lib.hid fun (r : List (Ar n)) (hm : r ∈ x.rows) (a : Option Addr) (c : Nat) (w' : World) (hh : RdE w' n a c r) (h8 : r.length ≤ 8) => rlist_any r (fun y hy => chk_okP (hp.ok.rows r hm y hy)) (fun y hy => pr_le (hp.ok.rows r hm y hy)) a c w' hh (by omega)
  have HL8 := Lib.hid fun (r : List (Ar n)) (hm : r ∈ x.rows) => (by have f := hp.ok.fm; unfold formedB at f; simp only [Bool.and_eq_true, List.all_eq_true] at f; have h2 := f.1.1.2 r hm; unfold rowB spB at h2; simp only [Bool.and_eq_true, decide_eq_true_eq] at h2; omega : 1 ≤ r.length ∧ r.length ≤ 8)
  have HJL := Lib.hid fun (r : List (Ar n)) (hm : r ∈ x.rows) => (join_len wcm (prA n) 9600 (fun y hy => pr_le (hp.ok.rows r hm y hy)) r.length)
  have hr0 : 0 < x.rows.length := by have f := hp.ok.fm; obtain ⟨kind, tb, cols, key, ix, rows, sets, items, jn, on, wh, gr, ord, lim⟩ := x; dsimp only at hk; subst hk; simp [formedB, namedB, countedB, onN, hasNm, gL, gH, gTab, spB] at f; grind
  have HR := Lib.hid hr.R
  unfold PrT
  clear hr hp hz
  rw [HT.out]
  obtain ⟨kind, tb, cols, key, ix, rows, sets, items, jn, on, wh, gr, ord, lim⟩ := x
  obtain ⟨⟨aC, ac1⟩, ⟨aR, ac2⟩, ⟨aS, ac3⟩, ⟨aI, ac4⟩, ⟨aO, ac5⟩, ⟨aW, ac6⟩, ⟨aG, ac7⟩, ⟨aD, ac8⟩⟩ := h
  dsimp only at hk
  subst hk
  unfold St.val St.cs at *
  dsimp only at *
  clear HT
  go_enter Tryz.func13, Tryz.ntmps13
  go_upto_region 1 with fail
  have HX := Lib.hid (heap_alloc_new w (.cells #[.int .i64 4, .string tb, .slice aC cols.length ac1, .string key, .string ix, .slice aR rows.length ac2, .slice aS sets.length ac3, .slice aI items.length ac4, .string jn, .slice aO on.length ac5, .slice aW wh.length ac6, .slice aG gr.length ac7, .slice aD ord.length ac8, .int .i64 lim] 28))
  have HB := Lib.hid (below1 w (.cells #[.int .i64 4, .string tb, .slice aC cols.length ac1, .string key, .string ix, .slice aR rows.length ac2, .slice aS sets.length ac3, .slice aI items.length ac4, .string jn, .slice aO on.length ac5, .slice aW wh.length ac6, .slice aG gr.length ac7, .slice aD ord.length ac8, .int .i64 lim] 28))
  generalize (w.alloc (.cells #[.int .i64 4, .string tb, .slice aC cols.length ac1, .string key, .string ix, .slice aR rows.length ac2, .slice aS sets.length ac3, .slice aI items.length ac4, .string jn, .slice aO on.length ac5, .slice aW wh.length ac6, .slice aG gr.length ac7, .slice aD ord.length ac8, .int .i64 lim] 28)) = W at *
  obtain ⟨x0, x1, x2, x3, x4, x5, x6, x7, x8, x9, x10, x11, x12, x13⟩ := cells14 HX.out
  go_upto_region 12 with (go_at_call 16; refine (HC.out _ HB.out).mono ?_; rintro e w1 ⟨rfl, hb⟩; replace HX := Lib.hid ((hb.block _ (heap_lt HX.out)).trans HX.out); replace HB := Lib.hid (below_call hb HB.out HB.out.size); clear hb x0 x1 x2 x3 x4 x5 x6 x7 x8 x9 x10 x11 x12 x13; obtain ⟨x0, x1, x2, x3, x4, x5, x6, x7, x8, x9, x10, x11, x12, x13⟩ := cells14 HX.out)
  go_wp2_with fail
  go_loopw [5, 6] (fun v i wr => ∃ (y : ByteArray) (j : Nat), v = .string y ∧ i = .int .i64 j ∧ j ≤ rows.length ∧ y.data.toList = wII ++ (tb.data.toList ++ (wva ++ joinL wcm ((rows.take j).map rowT))) ∧ y.size ≤ 100 + j * 80000 ∧ wr.heap[w.heap.size]? = some (.cells #[.int .i64 4, .string tb, .slice aC cols.length ac1, .string key, .string ix, .slice aR rows.length ac2, .slice aS sets.length ac3, .slice aI items.length ac4, .string jn, .slice aO on.length ac5, .slice aW wh.length ac6, .slice aG gr.length ac7, .slice aD ord.length ac8, .int .i64 lim] 28 (0, 0)) ∧ Below w.heap.size w wr) (fun _ i _ => rows.length - (intOf i).toNat)
  case atStart => exact ⟨_, 0, rfl, rfl, Nat.zero_le _, by simp [alist, wCT, wCI, wDT, wII, wUP, wDF, wBE, wCO, wRO, wop, wcl, wpk, wcc, won, wva, wst, wwh, weq, wbk, wcm, joinL], by (try simp only [ByteArray.size_append]); have k0 : (⟨#[73, 78, 83, 69, 82, 84, 32, 73, 78, 84, 79, 32]⟩ : ByteArray).size = 12 := rfl; have k1 : (⟨#[32, 86, 65, 76, 85, 69, 83, 32]⟩ : ByteArray).size = 8 := rfl; omega, HX.out, HB.out⟩
  case round =>
    clear HX HB x0 x1 x2 x3 x4 x5 x6 x7 x8 x9 x10 x11 x12 x13
    obtain ⟨y, j, rfl, rfl, hj, hy, hyz, hX, hb⟩ := hrel
    have HY := Lib.hid hy
    have HB := Lib.hid hb
    have HX := Lib.hid hX
    clear hy hb hX
    obtain ⟨x0, x1, x2, x3, x4, x5, x6, x7, x8, x9, x10, x11, x12, x13⟩ := cells14 HX.out
    rcases Nat.lt_or_ge j rows.length with hlt | hge
    · obtain ⟨ad, a1, k1, rfl, p0, r1⟩ := (RdK.below (KR_ok n) HR.out HB.out).row (j := j) hlt
      have hm := List.getElem_mem hlt
      obtain ⟨h81, h82⟩ := HL8.out _ hm
      have HZ := Lib.hid (HL.out _ hm a1 k1 wr r1 h82)
      have hjl := HJL.out _ hm
      rw [List.take_length, show wcm.length = 2 from rfl] at hjl
      have HS := Lib.hid (join_next wcm rowT rows j rows[j] (List.getElem?_eq_getElem hlt))
      clear HL HL8 HJL r1 hm HR
      have HRT : Hid (rowT rows[j] = wbk ++ joinL wcm (rows[j].map (prA n)) ++ wcl) := Lib.hid (by unfold rowT; rw [part_on (by omega)])
      generalize rows[j] = r at *
      have tl : (joinL wcm (r.map (prA n))).length ≤ 76816 := by have h4 : r.length * (9600 + 2) ≤ 8 * (9600 + 2) := Nat.mul_le_mul_right _ h82; omega
      have q1l : (⟨(joinL wcm (r.map (prA n))).toArray⟩ : ByteArray).size ≤ 76816 := by rw [← bsz]; exact tl
      have HT1 : Hid ((⟨(joinL wcm (r.map (prA n))).toArray⟩ : ByteArray).data.toList = joinL wcm (r.map (prA n))) := Lib.hid rfl
      generalize (⟨(joinL wcm (r.map (prA n))).toArray⟩ : ByteArray) = t1 at *
      generalize joinL wcm (r.map (prA n)) = T1 at *
      clear tl hjl h81 h82
      rcases Nat.eq_zero_or_pos j with h0 | h0
      · have hd : decide ((0 : Int) < (j : Int)) = false := by simp; omega
        have hd2 : decide (0 < j) = false := by simp; omega
        have H0 := Lib.hid h0
        have hj0 : j ≤ 0 := by omega
        clear h0
        go_wp2_with (go_at_call 35; refine HZ.out.mono ?_; rintro e w1 ⟨rfl, hb⟩; have HX1 := Lib.hid ((hb.block _ (heap_lt HX.out)).trans HX.out); have HB1 := Lib.hid (below_call hb HB.out HB.out.size); clear hb p0 x0 x1 x2 x3 x4 x5 x6 x7 x8 x9 x10 x11 x12 x13)
        go_roundw
        case rel => exact ⟨_, j + 1, rfl, by go_num, hlt, by rw [HS.out, if_pos H0.out, HRT.out]; simp [alist, HY.out, HT1.out, wCT, wCI, wDT, wII, wUP, wDF, wBE, wCO, wRO, wop, wcl, wpk, wcc, won, wva, wst, wwh, weq, wbk, wcm], by (try simp only [ByteArray.size_append]); have k0 : (⟨#[40]⟩ : ByteArray).size = 1 := rfl; have k1 : (⟨#[41]⟩ : ByteArray).size = 1 := rfl; omega, HX1.out, HB1.out⟩
        case measure => simp [intOf]; omega
      · have hd : decide ((0 : Int) < (j : Int)) = true := by simp; omega
        have hd2 : decide (0 < j) = true := by simp; omega
        have H0 := Lib.hid (show ¬ j = 0 by omega)
        go_wp2_with (go_at_call 35; refine HZ.out.mono ?_; rintro e w1 ⟨rfl, hb⟩; have HX1 := Lib.hid ((hb.block _ (heap_lt HX.out)).trans HX.out); have HB1 := Lib.hid (below_call hb HB.out HB.out.size); clear hb p0 x0 x1 x2 x3 x4 x5 x6 x7 x8 x9 x10 x11 x12 x13)
        go_roundw
        case rel => exact ⟨_, j + 1, rfl, by go_num, hlt, by rw [HS.out, if_neg H0.out, HRT.out]; simp [alist, HY.out, HT1.out, wCT, wCI, wDT, wII, wUP, wDF, wBE, wCO, wRO, wop, wcl, wpk, wcc, won, wva, wst, wwh, weq, wbk, wcm], by (try simp only [ByteArray.size_append]); have k0 : (⟨#[44, 32]⟩ : ByteArray).size = 2 := rfl; have k1 : (⟨#[40]⟩ : ByteArray).size = 1 := rfl; have k2 : (⟨#[41]⟩ : ByteArray).size = 1 := rfl; omega, HX1.out, HB1.out⟩
        case measure => simp [intOf]; omega
    · have HEq : Hid (rows.take j = rows) := Lib.hid (List.take_of_length_le (by omega))
      have HPo : Hid (partL wva rowT rows = wva ++ joinL wcm (rows.map rowT)) := Lib.hid (part_on hr0)
      go_wp2_with fail
      go_ret2
      exact ⟨ret_pair (ba_ext (by rw [HY.out, HEq.out, HPo.out])), HB.out⟩
set_option maxHeartbeats 8000000 in
set_option maxRecDepth 100000 in
theorem rPrint_5 {n : Nat} (x : St n) (h : Hs) (w : World) (hr : RdSt Any w x h) (hp : StPr x) (hz : chkSt x = 0) (hk : x.kind = 5) : Calls Tryz.prog 13 #[x.val h] w (PrT x w) := by
  have HC := Lib.hid fun (w' : World) (hb : Below w.heap.size w w') => (by have g := rCheck_any x h w' (hr.below hb); rw [hz] at g; exact g : Calls Tryz.prog 16 #[x.val h] w' fun e w2 => e = .returned (.int .i64 0) ∧ Below w'.heap.size w' w2)
  have htb := hp.tb
  have hkey := hp.key
  have hix := hp.ix
  have HT : Hid (stL x = wUP ++ (x.tb.data.toList ++ (partL wst setT x.sets ++ partL wwh (prA n) x.wh))) := Lib.hid (by unfold stL; simp [hk])
  obtain ⟨l1, l2, l3, l4, l5, l6, l7, l8⟩ := all_len hp.ok
  have HW := Lib.hid fun (w' : World) (hb : Below w.heap.size w w') => rwith_any ⟨#[87, 72, 69, 82, 69]⟩ x.wh (by decide) (fun y hy => chk_okP (hp.ok.wh y hy)) (fun y hy => pr_le (hp.ok.wh y hy)) h.W.a h.W.c w' (RdK.below (KE_ok n) (w := w) hr.W hb) l6
  have w2 : (32 :: ((⟨#[87, 72, 69, 82, 69]⟩ : ByteArray).data.toList ++ [32])) = wwh := rfl
  rw [w2] at HW
  clear w2
  have t3l : (partL wwh (prA n) x.wh).length ≤ 9612 := part_le hp.ok.wh l6 (by decide)
  have HL := Lib.hid fun (z : Sx n) (hm : z ∈ x.sets) (a : Option Addr) (c : Nat) (w' : World) (hh : RdE w' n a c z.x.l) => (show Calls Tryz.prog 36 #[z.x.val a c] w' fun e w2 => e = .returned (.string ⟨(prX z.x).toArray⟩) ∧ Below w'.heap.size w' w2 from rprinted_any (n + 1) z.x (by have g := (chk_ok (hp.ok.sets z hm)).1; exact g) a c w' hh (chk_ok (hp.ok.sets z hm)).2)
  have HPL := Lib.hid fun (z : Sx n) (hm : z ∈ x.sets) => (chk_ok (hp.ok.sets z hm)).2
  have HNL := Lib.hid fun (z : Sx n) (hm : z ∈ x.sets) => (by have f := hp.ok.fm; unfold formedB at f; simp only [Bool.and_eq_true, List.all_eq_true] at f; have h2 := f.1.2 z hm; exact nameB_len h2 : z.m.size ≤ 16)
  have hr0 : 0 < x.sets.length := by have f := hp.ok.fm; obtain ⟨kind, tb, cols, key, ix, rows, sets, items, jn, on, wh, gr, ord, lim⟩ := x; dsimp only at hk; subst hk; simp [formedB, namedB, countedB, onN, hasNm, gL, gH, gTab, spB] at f; grind
  have HR := Lib.hid hr.S
  unfold PrT
  clear hr hp hz
  rw [HT.out]
  obtain ⟨kind, tb, cols, key, ix, rows, sets, items, jn, on, wh, gr, ord, lim⟩ := x
  obtain ⟨⟨aC, ac1⟩, ⟨aR, ac2⟩, ⟨aS, ac3⟩, ⟨aI, ac4⟩, ⟨aO, ac5⟩, ⟨aW, ac6⟩, ⟨aG, ac7⟩, ⟨aD, ac8⟩⟩ := h
  dsimp only at hk
  subst hk
  unfold St.val St.cs at *
  dsimp only at *
  clear HT
  go_enter Tryz.func13, Tryz.ntmps13
  go_upto_region 1 with fail
  have HX := Lib.hid (heap_alloc_new w (.cells #[.int .i64 5, .string tb, .slice aC cols.length ac1, .string key, .string ix, .slice aR rows.length ac2, .slice aS sets.length ac3, .slice aI items.length ac4, .string jn, .slice aO on.length ac5, .slice aW wh.length ac6, .slice aG gr.length ac7, .slice aD ord.length ac8, .int .i64 lim] 28))
  have HB := Lib.hid (below1 w (.cells #[.int .i64 5, .string tb, .slice aC cols.length ac1, .string key, .string ix, .slice aR rows.length ac2, .slice aS sets.length ac3, .slice aI items.length ac4, .string jn, .slice aO on.length ac5, .slice aW wh.length ac6, .slice aG gr.length ac7, .slice aD ord.length ac8, .int .i64 lim] 28))
  generalize (w.alloc (.cells #[.int .i64 5, .string tb, .slice aC cols.length ac1, .string key, .string ix, .slice aR rows.length ac2, .slice aS sets.length ac3, .slice aI items.length ac4, .string jn, .slice aO on.length ac5, .slice aW wh.length ac6, .slice aG gr.length ac7, .slice aD ord.length ac8, .int .i64 lim] 28)) = W at *
  obtain ⟨x0, x1, x2, x3, x4, x5, x6, x7, x8, x9, x10, x11, x12, x13⟩ := cells14 HX.out
  generalize hT3 : partL wwh (prA n) wh = T3 at *
  have HG3 := Lib.hid hT3
  clear hT3
  have q3l : (⟨T3.toArray⟩ : ByteArray).size ≤ 9612 := by rw [← bsz]; exact t3l
  have HT3 : Hid ((⟨T3.toArray⟩ : ByteArray).data.toList = T3) := Lib.hid rfl
  generalize (⟨T3.toArray⟩ : ByteArray) = t3 at *
  clear t3l
  go_upto_region 21 with (go_at_call 16; refine (HC.out _ HB.out).mono ?_; rintro e w1 ⟨rfl, hb⟩; replace HX := Lib.hid ((hb.block _ (heap_lt HX.out)).trans HX.out); replace HB := Lib.hid (below_call hb HB.out HB.out.size); clear hb x0 x1 x2 x3 x4 x5 x6 x7 x8 x9 x10 x11 x12 x13; obtain ⟨x0, x1, x2, x3, x4, x5, x6, x7, x8, x9, x10, x11, x12, x13⟩ := cells14 HX.out)
  go_wp2_with fail
  go_loopw [7, 8] (fun v i wr => ∃ (y : ByteArray) (j : Nat), v = .string y ∧ i = .int .i64 j ∧ j ≤ sets.length ∧ y.data.toList = wUP ++ (tb.data.toList ++ (wst ++ joinL wcm ((sets.take j).map setT))) ∧ y.size ≤ 100 + j * 80000 ∧ wr.heap[w.heap.size]? = some (.cells #[.int .i64 5, .string tb, .slice aC cols.length ac1, .string key, .string ix, .slice aR rows.length ac2, .slice aS sets.length ac3, .slice aI items.length ac4, .string jn, .slice aO on.length ac5, .slice aW wh.length ac6, .slice aG gr.length ac7, .slice aD ord.length ac8, .int .i64 lim] 28 (0, 0)) ∧ Below w.heap.size w wr) (fun _ i _ => sets.length - (intOf i).toNat)
  case atStart => exact ⟨_, 0, rfl, rfl, Nat.zero_le _, by simp [alist, wCT, wCI, wDT, wII, wUP, wDF, wBE, wCO, wRO, wop, wcl, wpk, wcc, won, wva, wst, wwh, weq, wbk, wcm, joinL], by (try simp only [ByteArray.size_append]); have k0 : (⟨#[85, 80, 68, 65, 84, 69, 32]⟩ : ByteArray).size = 7 := rfl; have k1 : (⟨#[32, 83, 69, 84, 32]⟩ : ByteArray).size = 5 := rfl; omega, HX.out, HB.out⟩
  case round =>
    clear HX HB x0 x1 x2 x3 x4 x5 x6 x7 x8 x9 x10 x11 x12 x13
    obtain ⟨y, j, rfl, rfl, hj, hy, hyz, hX, hb⟩ := hrel
    have HY := Lib.hid hy
    have HB := Lib.hid hb
    have HX := Lib.hid hX
    clear hy hb hX
    obtain ⟨x0, x1, x2, x3, x4, x5, x6, x7, x8, x9, x10, x11, x12, x13⟩ := cells14 HX.out
    rcases Nat.lt_or_ge j sets.length with hlt | hge
    · obtain ⟨ad, a1, k1, rfl, ⟨p0, p1, p2, p3, p4, p5, p6, p7⟩, r1⟩ := (RdK.below (KS_ok n) HR.out HB.out).set (j := j) hlt
      have hm := List.getElem_mem hlt
      have HZ := Lib.hid fun (V : World) (hb : Below wr.heap.size wr V) => HL.out _ hm a1 k1 V (RdK.below (KE_ok n) r1 hb)
      have hpl := HPL.out _ hm
      have hnl := HNL.out _ hm
      have HS := Lib.hid (join_next wcm setT sets j sets[j] (List.getElem?_eq_getElem hlt))
      have HRT : Hid (setT sets[j] = sets[j].m.data.toList ++ (weq ++ prX sets[j].x)) := Lib.hid rfl
      clear HL HPL HNL r1 hm HR HW
      generalize sets[j] = r at *
      obtain ⟨m, ⟨op, ⟨k, vn, sv, hv⟩, t, nm, ls⟩⟩ := r
      unfold ExN.val at HZ
      dsimp only at p0 p1 p2 p3 p4 p5 p6 p7 HZ hpl hnl HRT
      have q1l : (⟨(prX (⟨op, ⟨k, vn, sv, hv⟩, t, nm, ls⟩ : ExN (Ar n))).toArray⟩ : ByteArray).size ≤ 9600 := by rw [← bsz]; exact hpl
      have HT1 : Hid ((⟨(prX (⟨op, ⟨k, vn, sv, hv⟩, t, nm, ls⟩ : ExN (Ar n))).toArray⟩ : ByteArray).data.toList = prX (⟨op, ⟨k, vn, sv, hv⟩, t, nm, ls⟩ : ExN (Ar n))) := Lib.hid rfl
      generalize (⟨(prX (⟨op, ⟨k, vn, sv, hv⟩, t, nm, ls⟩ : ExN (Ar n))).toArray⟩ : ByteArray) = t1 at *
      clear hpl
      rcases Nat.eq_zero_or_pos j with h0 | h0
      · have hd : decide ((0 : Int) < (j : Int)) = false := by simp; omega
        have hd2 : decide (0 < j) = false := by simp; omega
        have H0 := Lib.hid h0
        have hj0 : j ≤ 0 := by omega
        clear h0
        go_upto_region 27 with fail
        clear hd hd2
        have hi0 : (0 : Int) ≤ (j : Int) := by omega
        have hi1 : (j : Int) < (sets.length : Int) := by omega
        have hbq := fun d os => below_regrown wr d os
        have c0 := fun d os => HZ.out (grow (redrawn wr d) os) (hbq d os)
        clear hbq
        have y6 := cell_regrown x6
        have u0 := cell_regrown p0
        have u1 := cell_regrown p1
        have u2 := cell_regrown p2
        have u3 := cell_regrown p3
        have u4 := cell_regrown p4
        have u5 := cell_regrown p5
        have u6 := cell_regrown p6
        have u7 := cell_regrown p7
        clear x0 x1 x2 x3 x4 x5 x6 x7 x8 x9 x10 x11 x12 x13 p0 p1 p2 p3 p4 p5 p6 p7
        have a0 := fun (w : World) => add_run (a := y) (b := m) w (by (try simp only [ByteArray.size_append]); have k0 : (⟨#[32, 61, 32]⟩ : ByteArray).size = 3 := rfl; omega)
        have a1' := fun (w : World) => add_run (a := (y ++ m)) (b := ⟨#[32, 61, 32]⟩) w (by (try simp only [ByteArray.size_append]); have k0 : (⟨#[32, 61, 32]⟩ : ByteArray).size = 3 := rfl; omega)
        have a2 := fun (w : World) => add_run (a := (y ++ m ++ ⟨#[32, 61, 32]⟩)) (b := t1) w (by (try simp only [ByteArray.size_append]); have k0 : (⟨#[32, 61, 32]⟩ : ByteArray).size = 3 := rfl; omega)
        refine wp_region_quiet_below (by kernel_rfl) (by kernel_rfl) ?_
        repeat (go_big_quiet_step (with_reducible exact Calls.regrown_of (c0 _ _)))
        refine wpQuiet_nil ?_
        intro w5 hw5
        obtain ⟨p, rfl⟩ := hw5
        have HX1 := Lib.hid (((below_regrown wr p.d p.os).block _ (heap_lt HX.out)).trans HX.out)
        have HB1 := Lib.hid (HB.out.trans ((below_regrown wr p.d p.os).mono HB.out.size))
        clear c0 y6 u0 u1 u2 u3 u4 u5 u6 u7 a0 a1' a2
        go_wp2_with fail
        go_roundw
        case rel => first | exact ⟨_, j + 1, rfl, by go_num, hlt, by rw [HS.out, if_pos H0.out, HRT.out]; simp [alist, HY.out, HT1.out, wCT, wCI, wDT, wII, wUP, wDF, wBE, wCO, wRO, wop, wcl, wpk, wcc, won, wva, wst, wwh, weq, wbk, wcm], by (try simp only [ByteArray.size_append]); have k0 : (⟨#[32, 61, 32]⟩ : ByteArray).size = 3 := rfl; omega, HX1.out, HB1.out⟩ | ((repeat apply Exists.intro); exact ⟨⟨_, j + 1, rfl, by go_num, hlt, by rw [HS.out, if_pos H0.out, HRT.out]; simp [alist, HY.out, HT1.out, wCT, wCI, wDT, wII, wUP, wDF, wBE, wCO, wRO, wop, wcl, wpk, wcc, won, wva, wst, wwh, weq, wbk, wcm], by (try simp only [ByteArray.size_append]); have k0 : (⟨#[32, 61, 32]⟩ : ByteArray).size = 3 := rfl; omega, HX1.out, HB1.out⟩, rfl⟩)
        case measure => simp [intOf]; omega
      · have hd : decide ((0 : Int) < (j : Int)) = true := by simp; omega
        have hd2 : decide (0 < j) = true := by simp; omega
        have H0 := Lib.hid (show ¬ j = 0 by omega)
        go_upto_region 27 with fail
        clear hd hd2
        have hi0 : (0 : Int) ≤ (j : Int) := by omega
        have hi1 : (j : Int) < (sets.length : Int) := by omega
        have hbq := fun d os => below_regrown wr d os
        have c0 := fun d os => HZ.out (grow (redrawn wr d) os) (hbq d os)
        clear hbq
        have y6 := cell_regrown x6
        have u0 := cell_regrown p0
        have u1 := cell_regrown p1
        have u2 := cell_regrown p2
        have u3 := cell_regrown p3
        have u4 := cell_regrown p4
        have u5 := cell_regrown p5
        have u6 := cell_regrown p6
        have u7 := cell_regrown p7
        clear x0 x1 x2 x3 x4 x5 x6 x7 x8 x9 x10 x11 x12 x13 p0 p1 p2 p3 p4 p5 p6 p7
        have a0 := fun (w : World) => add_run (a := (y ++ ⟨#[44, 32]⟩)) (b := m) w (by (try simp only [ByteArray.size_append]); have k0 : (⟨#[44, 32]⟩ : ByteArray).size = 2 := rfl; have k1 : (⟨#[32, 61, 32]⟩ : ByteArray).size = 3 := rfl; omega)
        have a1' := fun (w : World) => add_run (a := ((y ++ ⟨#[44, 32]⟩) ++ m)) (b := ⟨#[32, 61, 32]⟩) w (by (try simp only [ByteArray.size_append]); have k0 : (⟨#[44, 32]⟩ : ByteArray).size = 2 := rfl; have k1 : (⟨#[32, 61, 32]⟩ : ByteArray).size = 3 := rfl; omega)
        have a2 := fun (w : World) => add_run (a := ((y ++ ⟨#[44, 32]⟩) ++ m ++ ⟨#[32, 61, 32]⟩)) (b := t1) w (by (try simp only [ByteArray.size_append]); have k0 : (⟨#[44, 32]⟩ : ByteArray).size = 2 := rfl; have k1 : (⟨#[32, 61, 32]⟩ : ByteArray).size = 3 := rfl; omega)
        refine wp_region_quiet_below (by kernel_rfl) (by kernel_rfl) ?_
        repeat (go_big_quiet_step (with_reducible exact Calls.regrown_of (c0 _ _)))
        refine wpQuiet_nil ?_
        intro w5 hw5
        obtain ⟨p, rfl⟩ := hw5
        have HX1 := Lib.hid (((below_regrown wr p.d p.os).block _ (heap_lt HX.out)).trans HX.out)
        have HB1 := Lib.hid (HB.out.trans ((below_regrown wr p.d p.os).mono HB.out.size))
        clear c0 y6 u0 u1 u2 u3 u4 u5 u6 u7 a0 a1' a2
        go_wp2_with fail
        go_roundw
        case rel => first | exact ⟨_, j + 1, rfl, by go_num, hlt, by rw [HS.out, if_neg H0.out, HRT.out]; simp [alist, HY.out, HT1.out, wCT, wCI, wDT, wII, wUP, wDF, wBE, wCO, wRO, wop, wcl, wpk, wcc, won, wva, wst, wwh, weq, wbk, wcm], by (try simp only [ByteArray.size_append]); have k0 : (⟨#[44, 32]⟩ : ByteArray).size = 2 := rfl; have k1 : (⟨#[32, 61, 32]⟩ : ByteArray).size = 3 := rfl; omega, HX1.out, HB1.out⟩ | ((repeat apply Exists.intro); exact ⟨⟨_, j + 1, rfl, by go_num, hlt, by rw [HS.out, if_neg H0.out, HRT.out]; simp [alist, HY.out, HT1.out, wCT, wCI, wDT, wII, wUP, wDF, wBE, wCO, wRO, wop, wcl, wpk, wcc, won, wva, wst, wwh, weq, wbk, wcm], by (try simp only [ByteArray.size_append]); have k0 : (⟨#[44, 32]⟩ : ByteArray).size = 2 := rfl; have k1 : (⟨#[32, 61, 32]⟩ : ByteArray).size = 3 := rfl; omega, HX1.out, HB1.out⟩, rfl⟩)
        case measure => simp [intOf]; omega
    · have HEq : Hid (sets.take j = sets) := Lib.hid (List.take_of_length_le (by omega))
      have HPo : Hid (partL wst setT sets = wst ++ joinL wcm (sets.map setT)) := Lib.hid (part_on hr0)
      have hy2 : y.size ≤ 1000000 := by omega
      go_wp2_with (go_at_call 37; refine (HW.out _ HB.out).mono ?_; rintro e w1 ⟨rfl, hb⟩; have HB1 := Lib.hid (below_call hb HB.out HB.out.size); clear hb)
      go_ret2
      exact ⟨ret_pair (ba_ext (by rw [alist, HY.out, HEq.out, HPo.out, HG3.out, HT3.out]; simp)), HB1.out⟩
set_option maxHeartbeats 8000000 in
set_option maxRecDepth 100000 in
theorem rPrint_6 {n : Nat} (x : St n) (h : Hs) (w : World) (hr : RdSt Any w x h) (hp : StPr x) (hz : chkSt x = 0) (hk : x.kind = 6) : Calls Tryz.prog 13 #[x.val h] w (PrT x w) := by
  have HC := Lib.hid fun (w' : World) (hb : Below w.heap.size w w') => (by have g := rCheck_any x h w' (hr.below hb); rw [hz] at g; exact g : Calls Tryz.prog 16 #[x.val h] w' fun e w2 => e = .returned (.int .i64 0) ∧ Below w'.heap.size w' w2)
  have htb := hp.tb
  have hkey := hp.key
  have hix := hp.ix
  have HT : Hid (stL x = wDF ++ (x.tb.data.toList ++ partL wwh (prA n) x.wh)) := Lib.hid (by unfold stL; simp [hk])
  obtain ⟨l1, l2, l3, l4, l5, l6, l7, l8⟩ := all_len hp.ok
  have HW := Lib.hid fun (w' : World) (hb : Below w.heap.size w w') => rwith_any ⟨#[87, 72, 69, 82, 69]⟩ x.wh (by decide) (fun y hy => chk_okP (hp.ok.wh y hy)) (fun y hy => pr_le (hp.ok.wh y hy)) h.W.a h.W.c w' (RdK.below (KE_ok n) (w := w) hr.W hb) l6
  have w2 : (32 :: ((⟨#[87, 72, 69, 82, 69]⟩ : ByteArray).data.toList ++ [32])) = wwh := rfl
  rw [w2] at HW
  clear w2
  have t3l : (partL wwh (prA n) x.wh).length ≤ 9612 := part_le hp.ok.wh l6 (by decide)
  unfold PrT
  clear hr hp hz
  rw [HT.out]
  obtain ⟨kind, tb, cols, key, ix, rows, sets, items, jn, on, wh, gr, ord, lim⟩ := x
  obtain ⟨⟨aC, ac1⟩, ⟨aR, ac2⟩, ⟨aS, ac3⟩, ⟨aI, ac4⟩, ⟨aO, ac5⟩, ⟨aW, ac6⟩, ⟨aG, ac7⟩, ⟨aD, ac8⟩⟩ := h
  dsimp only at hk
  subst hk
  unfold St.val St.cs at *
  dsimp only at *
  clear HT
  go_enter Tryz.func13, Tryz.ntmps13
  go_upto_region 1 with fail
  have HX := Lib.hid (heap_alloc_new w (.cells #[.int .i64 6, .string tb, .slice aC cols.length ac1, .string key, .string ix, .slice aR rows.length ac2, .slice aS sets.length ac3, .slice aI items.length ac4, .string jn, .slice aO on.length ac5, .slice aW wh.length ac6, .slice aG gr.length ac7, .slice aD ord.length ac8, .int .i64 lim] 28))
  have HB := Lib.hid (below1 w (.cells #[.int .i64 6, .string tb, .slice aC cols.length ac1, .string key, .string ix, .slice aR rows.length ac2, .slice aS sets.length ac3, .slice aI items.length ac4, .string jn, .slice aO on.length ac5, .slice aW wh.length ac6, .slice aG gr.length ac7, .slice aD ord.length ac8, .int .i64 lim] 28))
  generalize (w.alloc (.cells #[.int .i64 6, .string tb, .slice aC cols.length ac1, .string key, .string ix, .slice aR rows.length ac2, .slice aS sets.length ac3, .slice aI items.length ac4, .string jn, .slice aO on.length ac5, .slice aW wh.length ac6, .slice aG gr.length ac7, .slice aD ord.length ac8, .int .i64 lim] 28)) = W at *
  obtain ⟨x0, x1, x2, x3, x4, x5, x6, x7, x8, x9, x10, x11, x12, x13⟩ := cells14 HX.out
  generalize hT3 : partL wwh (prA n) wh = T3 at *
  have HG3 := Lib.hid hT3
  clear hT3
  have q3l : (⟨T3.toArray⟩ : ByteArray).size ≤ 9612 := by rw [← bsz]; exact t3l
  have HT3 : Hid ((⟨T3.toArray⟩ : ByteArray).data.toList = T3) := Lib.hid rfl
  generalize (⟨T3.toArray⟩ : ByteArray) = t3 at *
  clear t3l
  go_upto_region 30 with (go_at_call 16; refine (HC.out _ HB.out).mono ?_; rintro e w1 ⟨rfl, hb⟩; replace HX := Lib.hid ((hb.block _ (heap_lt HX.out)).trans HX.out); replace HB := Lib.hid (below_call hb HB.out HB.out.size); clear hb x0 x1 x2 x3 x4 x5 x6 x7 x8 x9 x10 x11 x12 x13; obtain ⟨x0, x1, x2, x3, x4, x5, x6, x7, x8, x9, x10, x11, x12, x13⟩ := cells14 HX.out)
  have hbr := fun d os => HB.out.trans ((below_regrown w1 d os).mono HB.out.size)
  have c0 := fun d os => HW.out (grow (redrawn w1 d) os) (hbr d os)
  clear hbr
  have y1 := cell_regrown x1
  have y10 := cell_regrown x10
  clear x0 x1 x2 x3 x4 x5 x6 x7 x8 x9 x10 x11 x12 x13
  have a0 := fun (w : World) => add_run (a := ⟨#[68, 69, 76, 69, 84, 69, 32, 70, 82, 79, 77, 32]⟩) (b := tb) w (by (try simp only [ByteArray.size_append]); have k0 : (⟨#[68, 69, 76, 69, 84, 69, 32, 70, 82, 79, 77, 32]⟩ : ByteArray).size = 12 := rfl; omega)
  have a1 := fun (w : World) => add_run (a := (⟨#[68, 69, 76, 69, 84, 69, 32, 70, 82, 79, 77, 32]⟩ ++ tb)) (b := t3) w (by (try simp only [ByteArray.size_append]); have k0 : (⟨#[68, 69, 76, 69, 84, 69, 32, 70, 82, 79, 77, 32]⟩ : ByteArray).size = 12 := rfl; omega)
  refine wp_region_quiet_below (by kernel_rfl) (by kernel_rfl) ?_
  repeat (go_big_quiet_step (first | (with_reducible exact Calls.regrown_of (c0 _ _))))
  refine wpQuiet_nil ?_
  intro w5 hw5
  obtain ⟨p, rfl⟩ := hw5
  replace HX := Lib.hid (((below_regrown w1 p.d p.os).block _ (heap_lt HX.out)).trans HX.out)
  replace HB := Lib.hid (HB.out.trans ((below_regrown w1 p.d p.os).mono HB.out.size))
  clear c0 y1 y10 a0 a1
  generalize (grow (redrawn w1 p.d) p.os) = W2 at *
  obtain ⟨x0, x1, x2, x3, x4, x5, x6, x7, x8, x9, x10, x11, x12, x13⟩ := cells14 HX.out
  go_wp2_with fail
  go_ret2
  exact ⟨ret_pair (ba_ext (by rw [HG3.out]; simp [alist, HT3.out, wCT, wCI, wDT, wII, wUP, wDF, wBE, wCO, wRO, wop, wcl, wpk, wcc, won, wva, wst, wwh, weq, wbk, wcm])), HB.out⟩
set_option maxHeartbeats 8000000 in
set_option maxRecDepth 100000 in
theorem rPrint_7 {n : Nat} (x : St n) (h : Hs) (w : World) (hr : RdSt Any w x h) (hp : StPr x) (hz : chkSt x = 0) (hk : x.kind = 7) : Calls Tryz.prog 13 #[x.val h] w (PrT x w) := by
  have HC := Lib.hid fun (w' : World) (hb : Below w.heap.size w w') => (by have g := rCheck_any x h w' (hr.below hb); rw [hz] at g; exact g : Calls Tryz.prog 16 #[x.val h] w' fun e w2 => e = .returned (.int .i64 0) ∧ Below w'.heap.size w' w2)
  have htb := hp.tb
  have hkey := hp.key
  have hix := hp.ix
  have HT : Hid (stL x = queryT x) := Lib.hid (by unfold stL; simp [hk])
  obtain ⟨l1, l2, l3, l4, l5, l6, l7, l8⟩ := all_len hp.ok
  have HS := Lib.hid fun (w' : World) (hb : Below w.heap.size w w') => rselected_any x h (sel_ok hp hk) w' (hr.below hb)
  generalize queryT x = TQ at *
  unfold PrT
  clear hr hp hz
  rw [HT.out]
  obtain ⟨kind, tb, cols, key, ix, rows, sets, items, jn, on, wh, gr, ord, lim⟩ := x
  obtain ⟨⟨aC, ac1⟩, ⟨aR, ac2⟩, ⟨aS, ac3⟩, ⟨aI, ac4⟩, ⟨aO, ac5⟩, ⟨aW, ac6⟩, ⟨aG, ac7⟩, ⟨aD, ac8⟩⟩ := h
  dsimp only at hk
  subst hk
  unfold St.val St.cs at *
  dsimp only at *
  clear HT
  go_enter Tryz.func13, Tryz.ntmps13
  go_upto_region 1 with fail
  have HX := Lib.hid (heap_alloc_new w (.cells #[.int .i64 7, .string tb, .slice aC cols.length ac1, .string key, .string ix, .slice aR rows.length ac2, .slice aS sets.length ac3, .slice aI items.length ac4, .string jn, .slice aO on.length ac5, .slice aW wh.length ac6, .slice aG gr.length ac7, .slice aD ord.length ac8, .int .i64 lim] 28))
  have HB := Lib.hid (below1 w (.cells #[.int .i64 7, .string tb, .slice aC cols.length ac1, .string key, .string ix, .slice aR rows.length ac2, .slice aS sets.length ac3, .slice aI items.length ac4, .string jn, .slice aO on.length ac5, .slice aW wh.length ac6, .slice aG gr.length ac7, .slice aD ord.length ac8, .int .i64 lim] 28))
  generalize (w.alloc (.cells #[.int .i64 7, .string tb, .slice aC cols.length ac1, .string key, .string ix, .slice aR rows.length ac2, .slice aS sets.length ac3, .slice aI items.length ac4, .string jn, .slice aO on.length ac5, .slice aW wh.length ac6, .slice aG gr.length ac7, .slice aD ord.length ac8, .int .i64 lim] 28)) = W at *
  obtain ⟨x0, x1, x2, x3, x4, x5, x6, x7, x8, x9, x10, x11, x12, x13⟩ := cells14 HX.out
  go_wp2_with (first | (go_at_call 16; refine (HC.out _ HB.out).mono ?_; rintro e w1 ⟨rfl, hb⟩; replace HX := Lib.hid ((hb.block _ (heap_lt HX.out)).trans HX.out); replace HB := Lib.hid (below_call hb HB.out HB.out.size); clear hb x0 x1 x2 x3 x4 x5 x6 x7 x8 x9 x10 x11 x12 x13; obtain ⟨x0, x1, x2, x3, x4, x5, x6, x7, x8, x9, x10, x11, x12, x13⟩ := cells14 HX.out) | (go_at_call 38; refine (HS.out _ HB.out).mono ?_; rintro e w2 ⟨rfl, hb⟩; replace HX := Lib.hid ((hb.block _ (heap_lt HX.out)).trans HX.out); replace HB := Lib.hid (below_call hb HB.out HB.out.size); clear hb x0 x1 x2 x3 x4 x5 x6 x7 x8 x9 x10 x11 x12 x13; obtain ⟨x0, x1, x2, x3, x4, x5, x6, x7, x8, x9, x10, x11, x12, x13⟩ := cells14 HX.out))
  go_ret2
  exact ⟨rfl, HB.out⟩
theorem rPrint_in {n : Nat} (x : St n) (h : Hs) (w : World) (hr : RdSt Any w x h) (hz : chkSt x = 0) : Calls Tryz.prog 13 #[x.val h] w (PrT x w) := by
  have hp := st_pr hz
  have h1 := hp.ok.lo
  have h2 := hp.ok.hi
  have : x.kind = 1 ∨ x.kind = 2 ∨ x.kind = 3 ∨ x.kind = 4 ∨ x.kind = 5 ∨ x.kind = 6 ∨ x.kind = 7 ∨ x.kind = 8 ∨ x.kind = 9 ∨ x.kind = 10 := by omega
  rcases this with e | e | e | e | e | e | e | e | e | e
  · exact rPrint_1 x h w hr hp hz e
  · exact rPrint_2 x h w hr hp hz e
  · exact rPrint_3 x h w hr hp hz e
  · exact rPrint_4 x h w hr hp hz e
  · exact rPrint_5 x h w hr hp hz e
  · exact rPrint_6 x h w hr hp hz e
  · exact rPrint_7 x h w hr hp hz e
  · exact rPrint_8 x h w hr hp hz e
  · exact rPrint_9 x h w hr hp hz e
  · exact rPrint_10 x h w hr hp hz e
set_option maxHeartbeats 2000000 in
set_option maxRecDepth 100000 in
theorem rPrint_no {n : Nat} (x : St n) (h : Hs) (w : World) (hr : RdSt Any w x h) (hz : chkSt x ≠ 0) : Calls Tryz.prog 13 #[x.val h] w fun e w' => e = .returned (.tuple #[.string ⟨#[]⟩, .int .i64 (chkSt x)]) ∧ Below w.heap.size w w' := by
  have HC := Lib.hid fun (w' : World) (hb : Below w.heap.size w w') => rCheck_any x h w' (hr.below hb)
  clear hr
  generalize chkSt x = E at *
  have d1 : (E != 0) = true := by simpa using hz
  have d2 : (E == 0) = false := by simpa using hz
  obtain ⟨kind, tb, cols, key, ix, rows, sets, items, jn, on, wh, gr, ord, lim⟩ := x
  obtain ⟨⟨aC, ac1⟩, ⟨aR, ac2⟩, ⟨aS, ac3⟩, ⟨aI, ac4⟩, ⟨aO, ac5⟩, ⟨aW, ac6⟩, ⟨aG, ac7⟩, ⟨aD, ac8⟩⟩ := h
  unfold St.val St.cs at *
  dsimp only at *
  clear hz
  go_enter Tryz.func13, Tryz.ntmps13
  go_upto_region 1 with fail
  have HX := Lib.hid (heap_alloc_new w (.cells #[.int .i64 kind, .string tb, .slice aC cols.length ac1, .string key, .string ix, .slice aR rows.length ac2, .slice aS sets.length ac3, .slice aI items.length ac4, .string jn, .slice aO on.length ac5, .slice aW wh.length ac6, .slice aG gr.length ac7, .slice aD ord.length ac8, .int .i64 lim] 28))
  have HB := Lib.hid (below1 w (.cells #[.int .i64 kind, .string tb, .slice aC cols.length ac1, .string key, .string ix, .slice aR rows.length ac2, .slice aS sets.length ac3, .slice aI items.length ac4, .string jn, .slice aO on.length ac5, .slice aW wh.length ac6, .slice aG gr.length ac7, .slice aD ord.length ac8, .int .i64 lim] 28))
  generalize (w.alloc (.cells #[.int .i64 kind, .string tb, .slice aC cols.length ac1, .string key, .string ix, .slice aR rows.length ac2, .slice aS sets.length ac3, .slice aI items.length ac4, .string jn, .slice aO on.length ac5, .slice aW wh.length ac6, .slice aG gr.length ac7, .slice aD ord.length ac8, .int .i64 lim] 28)) = W at *
  obtain ⟨x0, x1, x2, x3, x4, x5, x6, x7, x8, x9, x10, x11, x12, x13⟩ := cells14 HX.out
  go_wp2_with (go_at_call 16; refine (HC.out _ HB.out).mono ?_; rintro e w1 ⟨rfl, hb⟩; replace HX := Lib.hid ((hb.block _ (heap_lt HX.out)).trans HX.out); replace HB := Lib.hid (below_call hb HB.out HB.out.size); clear hb x0 x1 x2 x3 x4 x5 x6 x7 x8 x9 x10 x11 x12 x13; obtain ⟨x0, x1, x2, x3, x4, x5, x6, x7, x8, x9, x10, x11, x12, x13⟩ := cells14 HX.out)
  go_ret2
  exact ⟨rfl, HB.out⟩
theorem rPrint_any {n : Nat} (x : St n) (h : Hs) (w : World) (hr : RdSt Any w x h) :
    Calls Tryz.prog 13 #[x.val h] w fun e w' => e = .returned (.tuple #[.string (stX x), .int .i64 (chkSt x)]) ∧ Below w.heap.size w w' := by
  by_cases hz : chkSt x = 0
  · rw [stX_ok hz, hz]
    exact rPrint_in x h w hr hz
  · rw [stX_no hz]
    exact rPrint_no x h w hr hz
end Go.Proofs.YtnbgnofbeklmkaaGreatDoor
/- SyntaxTells answers true: the walk. Conditions: a statement that is read in memory; the tables that strconv and strings read, as they are laid. -/
namespace Go.Proofs.YtnbgnofbeklmkaaGreatDoor
open Go.RowKit Go.Sort
set_option linter.unusedSimpArgs false
set_option linter.unusedVariables false

theorem eqX_one {α : Type} (x : α) : eqX x x = true := eqX_iff.2 rfl
theorem wnum_b (n : Int) (w : World) : Calls Tryz.prog 14 #[.int .i64 n] w fun e w' => e = .returned (.int .i64 n) ∧ Below w.heap.size w w' :=
  (wnum_any n w).mono fun e w' ⟨h, hw⟩ => ⟨h, hw ▸ Below.refl _ _⟩
set_option maxHeartbeats 8000000 in
set_option maxRecDepth 100000 in
theorem tells_walk {n : Nat} (x : St n) (nm : ByteArray) (h : Hs) (w : World) (hr : RdSt Any w x h) (he : Env w.heap.size w) :
    Calls Tryz.prog 3 #[x.val h, .string nm] w fun e w' => e = .returned (.bool true) ∧ Below w.heap.size w w' := by
  have HCp := Lib.hid fun (w' : World) (hb : Below w.heap.size w w') => copyStmt_any x h w' (hr.below hb)
  have HP := Lib.hid fun (h' : Hs) (w' : World) (hb : Below w.heap.size w w') (r : RdSt Any w' x h') => sPrint_any x h' w' r ((he.below hb).mono hb.size)
  have HQ := Lib.hid fun (w' : World) (hb : Below w.heap.size w w') => rPrint_any x h w' (hr.below hb)
  have HC := Lib.hid fun (h' : Hs) (w' : World) (r : RdSt Any w' x h') => sCheck_any x h' w' r
  have HD := Lib.hid fun (w' : World) (hb : Below w.heap.size w w') => rCheck_any x h w' (hr.below hb)
  have HS := Lib.hid fun (h' : Hs) (w' : World) (hb : Below w.heap.size w w') (r : RdSt Any w' x h') => (by have h2 := sameStmt_any x x h' h w' r (hr.below hb); rw [eqX_one] at h2; exact h2 : Calls Tryz.prog 19 #[x.val h', x.val h] w' fun e w2 => e = .returned (.bool true) ∧ Below w'.heap.size w' w2)
  have HA := Lib.hid fun (w' : World) (hb : Below w.heap.size w w') => alive_any w.heap.size w' (he.below hb) hb.size
  have HN := Lib.hid fun (w' : World) => sName_any nm w'
  have HO := Lib.hid fun (w' : World) => rName_any nm w'
  clear hr he
  generalize stX x = TX at *
  generalize chkSt x = EX at *
  generalize nameB nm = NB at *
  obtain ⟨kind, tb, cols, key, ix, rows, sets, items, jn, on, wh, gr, ord, lim⟩ := x
  obtain ⟨⟨aC, ac1⟩, ⟨aR, ac2⟩, ⟨aS, ac3⟩, ⟨aI, ac4⟩, ⟨aO, ac5⟩, ⟨aW, ac6⟩, ⟨aG, ac7⟩, ⟨aD, ac8⟩⟩ := h
  unfold St.val St.cs at HCp HP HQ HC HD HS ⊢
  dsimp only at HCp HP HQ HC HD HS ⊢
  go_enter Tryz.func3, Tryz.ntmps3
  go_upto_region 1 with fail
  have hX := heap_alloc_new w (.cells #[.int .i64 kind, .string tb, .slice aC cols.length ac1, .string key, .string ix, .slice aR rows.length ac2, .slice aS sets.length ac3, .slice aI items.length ac4, .string jn, .slice aO on.length ac5, .slice aW wh.length ac6, .slice aG gr.length ac7, .slice aD ord.length ac8, .int .i64 lim] 28)
  have HB := Lib.hid (below1 w (.cells #[.int .i64 kind, .string tb, .slice aC cols.length ac1, .string key, .string ix, .slice aR rows.length ac2, .slice aS sets.length ac3, .slice aI items.length ac4, .string jn, .slice aO on.length ac5, .slice aW wh.length ac6, .slice aG gr.length ac7, .slice aD ord.length ac8, .int .i64 lim] 28))
  generalize (w.alloc (.cells #[.int .i64 kind, .string tb, .slice aC cols.length ac1, .string key, .string ix, .slice aR rows.length ac2, .slice aS sets.length ac3, .slice aI items.length ac4, .string jn, .slice aO on.length ac5, .slice aW wh.length ac6, .slice aG gr.length ac7, .slice aD ord.length ac8, .int .i64 lim] 28)) = W at hX HB ⊢
  obtain ⟨x0, x1, x2, x3, x4, x5, x6, x7, x8, x9, x10, x11, x12, x13⟩ := cells14 hX
  go_upto_region 2 with (go_at_call 11; refine (HCp.out _ HB.out).mono ?_; rintro e w2 ⟨⟨⟨bC, bc1⟩, ⟨bR, bc2⟩, ⟨bS, bc3⟩, ⟨bI, bc4⟩, ⟨bO, bc5⟩, ⟨bW, bc6⟩, ⟨bG, bc7⟩, ⟨bD, bc8⟩⟩, rfl, hrd, hb⟩)
  have hO := heap_alloc_new w2 (.cells #[.int .i64 kind, .string tb, .slice bC cols.length bc1, .string key, .string ix, .slice bR rows.length bc2, .slice bS sets.length bc3, .slice bI items.length bc4, .string jn, .slice bO on.length bc5, .slice bW wh.length bc6, .slice bG gr.length bc7, .slice bD ord.length bc8, .int .i64 lim] 28)
  replace hX := heap_keep_alloc ((hb.block _ (heap_lt hX)).trans hX) (.cells #[.int .i64 kind, .string tb, .slice bC cols.length bc1, .string key, .string ix, .slice bR rows.length bc2, .slice bS sets.length bc3, .slice bI items.length bc4, .string jn, .slice bO on.length bc5, .slice bW wh.length bc6, .slice bG gr.length bc7, .slice bD ord.length bc8, .int .i64 lim] 28)
  have HR := Lib.hid (RdSt.below (RdSt.any hrd) (below1 w2 (.cells #[.int .i64 kind, .string tb, .slice bC cols.length bc1, .string key, .string ix, .slice bR rows.length bc2, .slice bS sets.length bc3, .slice bI items.length bc4, .string jn, .slice bO on.length bc5, .slice bW wh.length bc6, .slice bG gr.length bc7, .slice bD ord.length bc8, .int .i64 lim] 28)))
  have hB0 := below_call hb HB.out HB.out.size
  replace HB := Lib.hid (hB0.alloc hB0.size (.cells #[.int .i64 kind, .string tb, .slice bC cols.length bc1, .string key, .string ix, .slice bR rows.length bc2, .slice bS sets.length bc3, .slice bI items.length bc4, .string jn, .slice bO on.length bc5, .slice bW wh.length bc6, .slice bG gr.length bc7, .slice bD ord.length bc8, .int .i64 lim] 28))
  clear hB0 hb hrd x0 x1 x2 x3 x4 x5 x6 x7 x8 x9 x10 x11 x12 x13
  generalize hbo : w2.heap.size = bo at *
  clear hbo
  generalize (w2.alloc (.cells #[.int .i64 kind, .string tb, .slice bC cols.length bc1, .string key, .string ix, .slice bR rows.length bc2, .slice bS sets.length bc3, .slice bI items.length bc4, .string jn, .slice bO on.length bc5, .slice bW wh.length bc6, .slice bG gr.length bc7, .slice bD ord.length bc8, .int .i64 lim] 28)) = W2 at *
  obtain ⟨x0, x1, x2, x3, x4, x5, x6, x7, x8, x9, x10, x11, x12, x13⟩ := cells14 hX
  obtain ⟨o0, o1, o2, o3, o4, o5, o6, o7, o8, o9, o10, o11, o12, o13⟩ := cells14 hO
  go_upto_region 4 with (first | (go_at_call 12; refine (HP.out _ _ HB.out HR.out).mono ?_; rintro e v ⟨rfl, hb⟩; replace hX := (hb.block _ (heap_lt hX)).trans hX; replace hO := (hb.block _ (heap_lt hO)).trans hO; replace HR := Lib.hid (RdSt.below HR.out hb); replace HB := Lib.hid (below_call hb HB.out HB.out.size); clear hb x0 x1 x2 x3 x4 x5 x6 x7 x8 x9 x10 x11 x12 x13 o0 o1 o2 o3 o4 o5 o6 o7 o8 o9 o10 o11 o12 o13; obtain ⟨x0, x1, x2, x3, x4, x5, x6, x7, x8, x9, x10, x11, x12, x13⟩ := cells14 hX; obtain ⟨o0, o1, o2, o3, o4, o5, o6, o7, o8, o9, o10, o11, o12, o13⟩ := cells14 hO) | (go_at_call 13; refine (HQ.out _ HB.out).mono ?_; rintro e w3 ⟨rfl, hb⟩; replace hX := (hb.block _ (heap_lt hX)).trans hX; replace hO := (hb.block _ (heap_lt hO)).trans hO; replace HR := Lib.hid (RdSt.below HR.out hb); replace HB := Lib.hid (below_call hb HB.out HB.out.size); clear hb x0 x1 x2 x3 x4 x5 x6 x7 x8 x9 x10 x11 x12 x13 o0 o1 o2 o3 o4 o5 o6 o7 o8 o9 o10 o11 o12 o13; obtain ⟨x0, x1, x2, x3, x4, x5, x6, x7, x8, x9, x10, x11, x12, x13⟩ := cells14 hX; obtain ⟨o0, o1, o2, o3, o4, o5, o6, o7, o8, o9, o10, o11, o12, o13⟩ := cells14 hO))
  have HX := Lib.hid hX
  have HO2 := Lib.hid hO
  clear hX hO
  have hbr := fun d os => HB.out.trans ((below_regrown w3 d os).mono HB.out.size)
  have hrr := fun d os => HR.out.below (below_regrown w3 d os)
  have c0 := fun d os => HC.out _ (grow (redrawn w3 d) os) (hrr d os)
  have c1 := fun d os => wnum_b EX (grow (redrawn w3 d) os)
  have c2 := fun d os => HD.out (grow (redrawn w3 d) os) (hbr d os)
  have c3 := fun d os => HN.out (grow (redrawn w3 d) os)
  have c4 := fun d os => HO.out (grow (redrawn w3 d) os)
  have c5 := fun d os => HS.out _ (grow (redrawn w3 d) os) (hbr d os) (hrr d os)
  have c6 := fun d os => HA.out (grow (redrawn w3 d) os) (hbr d os)
  clear hbr hrr HC HD HS HA HP HQ HCp HN HO
  have y0 := cell_regrown x0
  have y1 := cell_regrown x1
  have y2 := cell_regrown x2
  have y3 := cell_regrown x3
  have y4 := cell_regrown x4
  have y5 := cell_regrown x5
  have y6 := cell_regrown x6
  have y7 := cell_regrown x7
  have y8 := cell_regrown x8
  have y9 := cell_regrown x9
  have y10 := cell_regrown x10
  have y11 := cell_regrown x11
  have y12 := cell_regrown x12
  have y13 := cell_regrown x13
  have z0 := cell_regrown o0
  have z1 := cell_regrown o1
  have z2 := cell_regrown o2
  have z3 := cell_regrown o3
  have z4 := cell_regrown o4
  have z5 := cell_regrown o5
  have z6 := cell_regrown o6
  have z7 := cell_regrown o7
  have z8 := cell_regrown o8
  have z9 := cell_regrown o9
  have z10 := cell_regrown o10
  have z11 := cell_regrown o11
  have z12 := cell_regrown o12
  have z13 := cell_regrown o13
  have hTT : (TX.toList == TX.toList) = true := by simp
  have hEE : (EX == EX) = true := by simp
  have hNN : (NB == NB) = true := by simp
  clear x0 x1 x2 x3 x4 x5 x6 x7 x8 x9 x10 x11 x12 x13 o0 o1 o2 o3 o4 o5 o6 o7 o8 o9 o10 o11 o12 o13
  refine wp_region_quiet_below (by kernel_rfl) (by kernel_rfl) ?_
  repeat (go_big_quiet_step (first | (with_reducible exact Calls.regrown_of (c0 _ _)) | (with_reducible exact Calls.regrown_of (c1 _ _)) | (with_reducible exact Calls.regrown_of (c2 _ _)) | (with_reducible exact Calls.regrown_of (c3 _ _)) | (with_reducible exact Calls.regrown_of (c4 _ _)) | (with_reducible exact Calls.regrown_of (c5 _ _)) | (with_reducible exact Calls.regrown_of (c6 _ _))))
  refine wpQuiet_nil ?_
  intro w5 hw5
  obtain ⟨p, rfl⟩ := hw5
  have HB5 := Lib.hid (HB.out.trans ((below_regrown w3 p.d p.os).mono HB.out.size))
  clear c0 c1 c2 c3 c4 c5 c6 y0 z0 y1 z1 y2 z2 y3 z3 y4 z4 y5 z5 y6 z6 y7 z7 y8 z8 y9 z9 y10 z10 y11 z11 y12 z12 y13 z13
  go_wp2_with fail
  go_ret
  exact ⟨rfl, HB5.out⟩
end Go.Proofs.YtnbgnofbeklmkaaGreatDoor
namespace Go.Proofs.YtnbgnofbeklmkaaGreatDoor.syntaxTells
open Go.ChangeShapes Go.WideShapes Go.ChangeAt Go.RowKit
open Go.Proofs.YtnbgnofbeklmkaaGreatDoor Go.Proofs.YtnbgnofbeklmkaaGreatDoor.Sy
open Go.ChangeMaps (open_string shut_string)
set_option linter.unusedSimpArgs false
set_option linter.unusedVariables false

theorem recS : Tryz.prog.readableRec 28 = true := by kernel_rfl
theorem rowS : 28 < Tryz.prog.types.size := of_decide_eq_true (by kernel_rfl)
set_option maxHeartbeats 1000000 in
set_option maxRecDepth 100000 in
theorem lifted (os : Os) (started : os.Started) (H : Type) (enc : TypeId × Value → H) :
    ReturnsInHanded {} Tryz.checked os 3 .any (fun w args => (Rows.syntaxTellsSpec.pre enc Tryz.prog Tryz.f3 [] false w args ∧ laidMetH Tryz.prog laid w) ∧ sizedMet enc Tryz.prog Tryz.f3 (OpenSpec.ofChange Rows.syntaxTellsSpec) false w args)
      (Rows.syntaxTellsSpec.post enc Tryz.prog Tryz.f3 false true false false) := by
  refine returns_and_shaped (C := Tryz.checked) (X := fun w _ => laidMetH Tryz.prog laid w) (fun _ _ _ hh h => h.of_heap hh) own started (by kernel_rfl) Tryz.func3
    (ChangeSpec.witness_shaped (enc := enc) (C := Tryz.checked) (os := os) (X := fun w _ => laidMetH Tryz.prog laid w) false (World.laidAll Tryz.prog os laid) #[.agg #[.int .i64 0, .string ⟨#[]⟩, .slice none 0 0, .string ⟨#[]⟩, .string ⟨#[]⟩, .slice none 0 0, .slice none 0 0, .slice none 0 0, .string ⟨#[]⟩, .slice none 0 0, .slice none 0 0, .slice none 0 0, .slice none 0 0, .int .i64 0], .string ⟨#[]⟩] 8 (World.laidAll_os _ _ _) (start_shaped os _) (by kernel_rfl) (by kernel_rfl) (by kernel_rfl) (start_met os _)) ?_
  intro W base args ds gs before hval0 hW hsz0 hL hsh
  have hsz : (DataW.weightsEach Tryz.prog (Tryz.f3.params.toList ++ Rows.syntaxTellsSpec.plain.varTypes Tryz.prog) (ds ++ gs)).all (· ≤ reachBytes) = true := hsz0
  clear hsz0
  have hval : ∀ (j : Nat) t v, Tryz.f3.params[j]? = some t → args[j]? = some v → Value.okWide Tryz.prog W .any base t v := hval0
  have hW' := hW
  obtain ⟨p, q, hA0, hV, rfl, _, _⟩ := hW
  have hA : DataW.TrodAll enc Tryz.prog W 0 (fun _ => true) true Tryz.f3.params.toList args.toList ds p := hA0
  rw [Tryz.params3] at hA hval hsz
  obtain ⟨v0, v1, d0, d1, p0, p1, rfl, rfl, rfl, h0, h1⟩ := trodAll_two hA
  obtain ⟨rfl, rfl⟩ := trodVars_none hV
  obtain ⟨f0, g0⟩ := open_stmt (hval 0 28 v0 rfl rfl) h0 (lt_one hsz (j := 0) rfl rfl)
  obtain ⟨s1, rfl, rfl, rfl, ws1⟩ := open_string Tryz.underlying9 (hval 1 9 v1 rfl rfl) h1
  obtain ⟨z0, hs0, rfl, hr0⟩ := g0 f0 (Nat.le_refl _)
  clear hA0 hval0 hsz
  simp only [List.append_nil] at hW'
  have hlt0 : ∀ y ∈ p0, y.block < W.heap.size := fun y hy => hW'.lt y hy
  refine (tells_walk z0 s1 hs0 W hr0  (env_of hL hsh)).mono fun e W' ⟨he, hB⟩ => ?_
  subst he
  exact ⟨_, rfl, _, _, _, [], p0 ++ [], [], hW', trodAll_mk1 (shut_bool Tryz.underlying4 _), trodAll_mk2 (Below.trod laidOut recS rowS h0 hB hlt0) (shut_string Tryz.underlying9 ws1), rfl, hB.frame _, fun h => by cases h⟩

theorem holds : Rows.SyntaxTellsSaid :=
  OpenClaim.holds_of_wide 3 Tryz.f3 rfl rfl rfl rfl rfl rfl rfl ⟨rfl, rfl, rfl, rfl, rfl⟩ rfl rfl rfl rfl rfl (by kernel_rfl) Tryz.func3 (by kernel_rfl)
    (of_decide_eq_true (by kernel_rfl)) (by unfold Func.isWrapper; first | (rw [if_pos (by decide +kernel)]; kernel_rfl) | (rw [if_neg (by decide +kernel)]; exact ⟨rfl, rfl⟩))
    (fun os started H enc _ => lifted os started H enc)

theorem card : Rows.SyntaxTellsCardSaid :=
  Claim7.holds_tied_plain_at .later [] [.data, .data, .data, .data, .pinned] true (true, "8d03d6588a16a6bb356fa2c5186746eaad4358375bda485b4d9be1d676590a21") true
    holds (fun _ h => by cases h) (by kernel_rfl) (fun _ h => by cases h) syntaxTells_row_tie rfl ⟨rfl, rfl⟩ (by kernel_rfl) rfl
    (fun f fn hf hfn => by
      obtain rfl : f = 3 := Option.some.inj ((show Tryz.prog.funcNamed "switchback/switchbacklaw04.SyntaxTells" = some 3 by kernel_rfl).symm.trans hf) |>.symm
      obtain rfl : fn = Tryz.f3 := (Option.some.inj (Tryz.func3.symm.trans hfn)).symm
      exact ⟨by kernel_rfl, fun j t ht => by
        rw [Tryz.params3] at ht
        have hm : t ∈ [28, 9] := by simpa using Array.mem_of_getElem? ht
        have hall : ([28, 9].all fun u => !Tryz.prog.wantsStandIn u) = true := by kernel_rfl
        exact (show Tryz.prog.wantsStandIn t = false by simpa using List.all_eq_true.1 hall t hm)⟩)
    (by kernel_rfl)

end Go.Proofs.YtnbgnofbeklmkaaGreatDoor.syntaxTells
namespace Go.Proofs.YtnbgnofbeklmkaaGreatDoor
theorem syntaxTells_holds : Rows.SyntaxTellsCardSaid := syntaxTells.card
#print axioms syntaxTells_holds
end Go.Proofs.YtnbgnofbeklmkaaGreatDoor
