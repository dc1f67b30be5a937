/- For any a statement and any a statement SyntaxSame answers true (two statements are one as the page says; one that may be and its copy are), and what is handed in reads as before; the library's variables hold what the program's text lays into them (tied to the text). No other conditions. -/
import Derived.Test.YtnbgnofbeklmkaaGreatDoorRows
import Derived.Test.YtnbgnofbeklmkaaGreatDoorTie
import Derived.Test.YtnbgnofbeklmkaaGreatDoorUb
import Derived.Test.YtnbgnofbeklmkaaGreatDoorUf
import Derived.ProofKit
import Derived.OpenShut
import Derived.Carry
import Derived.SizedLaws
import Derived.Handed
import Derived.ChangeMaps5
import Derived.Lib.LaidTab
import Derived.Lib.SmallJoins
import Derived.Stop.LaidErr
import Derived.Shelf.Vars
import Derived.Lay
import Derived.LaidOnce
import Derived.SevenTiedAt
import Derived.Test.YtnbgnofbeklmkaaGreatDoorTp0
import Derived.Test.YtnbgnofbeklmkaaGreatDoorFa
import Derived.Test.YtnbgnofbeklmkaaGreatDoorFb
import Derived.Test.YtnbgnofbeklmkaaGreatDoorUk
import Derived.Test.YtnbgnofbeklmkaaGreatDoorDc3
import Derived.Test.YtnbgnofbeklmkaaGreatDoorFe
import Derived.Deep.MidRow
import Derived.Test.YtnbgnofbeklmkaaGreatDoorCards
/- What the listed variables and the world's shape give a walk, a start that meets them, and how an expression as an argument is read. Conditions: none. -/
namespace Go.Proofs.YtnbgnofbeklmkaaGreatDoor.Sy
open Go.Proofs.YtnbgnofbeklmkaaGreatDoor
open Go.ChangeShapes Go.WideShapes Go.ChangeAt Go.RowKit
set_option linter.unusedSimpArgs false
set_option linter.unusedVariables false

theorem own : ownKnob Tryz.prog.godebug = none := by kernel_rfl
def laid : List (String × DataW Unit) := Rows.syntaxTellsRow.laid
theorem laidOut : laidOutB Tryz.prog = true := by kernel_rfl
theorem recE : Tryz.prog.readableRec 51 = true := by kernel_rfl
theorem rowE : 51 < Tryz.prog.types.size := of_decide_eq_true (by kernel_rfl)
theorem tPow : (Tryz.prog.globals[3]?).map (·.type) = some 231 := by kernel_rfl
theorem cPow : Tryz.prog.cellsOf 231 = 20 := by kernel_rfl
theorem cU64 : Tryz.prog.cellsOf 218 = 1 := by kernel_rfl
theorem dPow : (Rows.laid_internal_strconv_uint64pow10 : DataW Unit) = Lib.tabData .u64 Lib.pow10Tab := by kernel_rfl
theorem env_of {W : World} (h : laidMetH Tryz.prog laid W) (hsh : W.ShapedOpen Tryz.prog) : Env W.heap.size W := by
  rw [MakeChecks.laidMetH_plain _ _ _ (by kernel_rfl)] at h
  have h2 : laidMet Tryz.prog laid W := h
  have h3 : laidMet Tryz.prog (("internal/strconv.uint64pow10", Rows.laid_internal_strconv_uint64pow10) :: [("unicode/utf8.acceptRanges", Rows.laid_unicode_utf8_acceptRanges), ("unicode/utf8.first", Rows.laid_unicode_utf8_first)]) W := laidMet.tail (laidMet.tail h2)
  rw [dPow] at h3
  obtain ⟨m, hm⟩ := cell_of_shapedOpen_int (g := 0) (t := 3) (k := .i64) hsh (of_decide_eq_true (by kernel_rfl)) (zero := #[.int .i64 0]) (by kernel_rfl) rfl (by kernel_rfl) (by kernel_rfl) Tryz.underlying3
  exact Env.start hm (Lib.tabIs_of_head globalPow tPow Tryz.underlying231 Tryz.underlying218 cU64 cPow h3)

/-- The plain wrap with a condition of one's own, the world's shape kept. -/
theorem returns_and_shaped {H : Type} {enc : TypeId × Value → H} {a : Assume} {C : Checked} {os : Os} {f : FuncId} {fn : Func} {s : ChangeSpec} {conds : List PathCond} {apart fresh handsOn again : Bool} {X : World → Array Value → Prop}
    (hX : ∀ (w w' : World) (args : Array Value), w.heap = w'.heap → X w args → X w' args)
    (own : ownKnob C.prog.godebug = none) (started : os.Started) (noInit : C.prog.inits.idxOf? f = none) (hfn : C.prog.funcs[f]? = some fn)
    (witness : ∃ (w : World) (tape : Tape) (i : Input), w.os = os ∧ (w.forCall tape i).Shaped C.prog ∧ i.vars = [] ∧ Input.okWide C.prog (w.forCall tape i) .any w.heap.size f i ∧
      ((s.pre enc C.prog fn conds apart (w.forCall tape i).memory i.args ∧ X (w.forCall tape i).memory i.args) ∧ sizedMet enc C.prog fn (OpenSpec.ofChange s) apart (w.forCall tape i).memory i.args) ∧ a.holds C.prog (lone (Frame.enter C.prog f i.args .normal) [] (w.forCall tape i)))
    (contract : ∀ (W : World) (base : Nat) (args : Array Value) (ds gs : List (DataW H)) (before : List MemPlace),
      (∀ (j : Nat) t v, fn.params[j]? = some t → args[j]? = some v → Value.okWide C.prog W .any base t v) →
      DataW.Whole enc C.prog fn.params.toList s.vars apart W args.toList ds gs before →
      (DataW.weightsEach C.prog (fn.params.toList ++ s.plain.varTypes C.prog) (ds ++ gs)).all (· ≤ reachBytes) = true → X W args → W.ShapedOpen C.prog →
      Calls C.prog f args W fun e W' => ∃ v, e = .returned v ∧ s.post enc C.prog fn apart fresh handsOn again W args v W') :
    ReturnsInHanded a C os f .any (fun w args => (s.pre enc C.prog fn conds apart w args ∧ X w args) ∧ sizedMet enc C.prog fn (OpenSpec.ofChange s) apart w args) (s.post enc C.prog fn apart fresh handsOn again) := by
  refine returnsInHanded_of_calls own started noInit witness ?_
  intro w tape i _ hsh _ hok hpre hholds
  obtain ⟨_, _, _, fn', hfn', _, _, _, _, hval⟩ := hok
  have e : fn' = fn := Option.some.inj (hfn'.symm.trans hfn)
  subst e
  obtain ⟨⟨⟨ds, gs, before, hw, hc⟩, hx⟩, hz⟩ := hpre
  have hw' := DataW.Whole.of_heap (w' := w.forCall tape i) (by rfl) hw
  refine (contract (w.forCall tape i) w.heap.size i.args ds gs before hval hw' (hz.weights hw) (hX _ _ _ (by rfl) hx) hsh).mono fun e W' ⟨v, he, hp⟩ => ?_
  subst he
  exact ChangeSpec.post_blind hp

theorem start_shaped (os : Os) (args : Array Value) : ((World.laidAll Tryz.prog os laid).forCall (fun _ _ => 0) ⟨#[], args, []⟩).Shaped Tryz.prog := World.shaped_of_ZipB (by kernel_rfl) (by kernel_rfl)
theorem start_met (os : Os) (args : Array Value) : laidMetH Tryz.prog laid ((World.laidAll Tryz.prog os laid).forCall (fun _ _ => 0) ⟨#[], args, []⟩).memory := by
  rw [MakeChecks.laidMetH_plain _ _ _ (by kernel_rfl)]
  exact laidMet_laidAll _ (by kernel_rfl) (by kernel_rfl)

section
variable {H : Type} {enc : TypeId × Value → H} {w : World} {base : Nat} {spare : Nat → Bool} {held : Bool}
set_option maxRecDepth 100000 in
theorem open_expr {r : Reach} {b0 : Nat} {v : Value} {d : DataW H} {p : List MemPlace} (hv : Value.okWide Tryz.prog w r b0 51 v) (h : DataW.Trod enc Tryz.prog w base spare held 51 v d p) (hw : Lt 51 d) :
    ∃ (n : Nat) (x : ExN (Ar n)) (a : Option Addr) (c : Nat), v = x.val a c ∧ RdE w n a c x.l := by
  obtain ⟨cs, rfl, hsz⟩ := okWide_struct Tryz.underlying51 hv
  obtain ⟨fuel, hf⟩ := h
  obtain ⟨y, a, c, e, hd⟩ := open_ar fuel _ _ hf hw
  rw [KE_cs] at e
  rw [KE_dp] at hd
  refine ⟨gf fuel - 1, y.e, a, c, ?_, hd⟩
  have e2 : cs.toList = y.e.cs a c := by simpa [Value.cells] using e
  have e3 : cs = (y.e.cs a c).toArray := by rw [← e2]
  rw [e3]
  rfl
theorem lt_one {t : TypeId} {ds : List (DataW H)} {ts : List TypeId} {d : DataW H} {j : Nat} (h : (DataW.weightsEach Tryz.prog ts ds).all (· ≤ reachBytes) = true) (ht : ts[j]? = some t) (hd : ds[j]? = some d) : Lt t d := fun n hn =>
  of_decide_eq_true (List.all_eq_true.1 h n (DataW.weights_mem_each ht hd n hn))
end
end Go.Proofs.YtnbgnofbeklmkaaGreatDoor.Sy
/- How a statement that came in as an argument is read: from the reading of data to ours. Conditions: none. -/
namespace Go.Proofs.YtnbgnofbeklmkaaGreatDoor
open Go.ChangeShapes Go.WideShapes Go.ChangeAt Go.RowKit
set_option linter.unusedSimpArgs false
set_option linter.unusedVariables false

section
variable {H : Type} {enc : TypeId × Value → H} {w : World} {base : Nat} {spare : Nat → Bool} {held : Bool}
theorem cellsR : Tryz.prog.cellsOf 23 = 1 := by kernel_rfl
theorem cellsSx : Tryz.prog.cellsOf 59 = 8 := by kernel_rfl
theorem cellsLS : Tryz.prog.cellsOf 24 = 1 := by kernel_rfl
theorem cellsCl : Tryz.prog.cellsOf 82 = 3 := by kernel_rfl
theorem cellsLC : Tryz.prog.cellsOf 22 = 1 := by kernel_rfl
theorem cellsOd : Tryz.prog.cellsOf 85 = 2 := by kernel_rfl
theorem cellsLO : Tryz.prog.cellsOf 26 = 1 := by kernel_rfl
theorem cellsB : Tryz.prog.cellsOf 4 = 1 := by kernel_rfl
theorem cellsSt14 : Tryz.prog.cellsOf 28 = 14 := by kernel_rfl
theorem bytesL : Tryz.prog.bytesOf 25 = 24 := by kernel_rfl
theorem bytesSx : Tryz.prog.bytesOf 59 = 112 := by kernel_rfl
theorem bytesCl : Tryz.prog.bytesOf 82 = 32 := by kernel_rfl
theorem bytesOd : Tryz.prog.bytesOf 85 = 16 := by kernel_rfl

theorem open_arF {f F : Nat} (hF : f ≤ F) {cs : List Value} {x : DataW H × List MemPlace} (h : DataW.trod enc Tryz.prog w base spare held f 51 cs = some x) (hw : Lt 51 x.1) :
    ∃ (y : Ar (gf F)) (a : Option Addr) (c : Nat), cs = (KE (gf F)).cs y a c ∧ (KE (gf F)).dp Any w y a c := open_ar F cs x (DataW.trod_le hF h) hw
theorem open_exF {f F : Nat} (hF : f ≤ F) {cs : List Value} {x : DataW H × List MemPlace} (h : DataW.trod enc Tryz.prog w base spare held f 51 cs = some x) (hw : Lt 51 x.1) :
    ∃ (y : ExN (Ar (gf F))) (a : Option Addr) (c : Nat), cs = y.cs a c ∧ RdE w (gf F) a c y.l := by
  obtain ⟨y, a, c, e, hd⟩ := open_ar (F + 2) cs x (DataW.trod_le (Nat.le_trans hF (Nat.le_add_right _ _)) h) hw
  exact ⟨(y : ExN (Ar (gf F))), a, c, e, hd⟩
theorem open_exprsF {f F : Nat} (hF : f ≤ F) {cs : List Value} {x : DataW H × List MemPlace} (h : DataW.trod enc Tryz.prog w base spare held f 25 cs = some x) (hw : Lt 25 x.1) :
    ∃ (A : Option Addr) (c : Nat) (l : List (Ar (gf F))), cs = [.slice A l.length c] ∧ RdE w (gf F) A c l :=
  open_rd (KE (gf F)) Tryz.underlying25 (by rw [KE_k]; exact cellsE) (by rw [KE_b]; exact bytesE) h hw (fun m hm cs' y hy hwy => open_arF (by omega) hy hwy)
theorem open_rowsF {f F : Nat} (hF : f ≤ F) {cs : List Value} {x : DataW H × List MemPlace} (h : DataW.trod enc Tryz.prog w base spare held f 23 cs = some x) (hw : Lt 23 x.1) :
    ∃ (A : Option Addr) (c : Nat) (l : List (List (Ar (gf F)))), cs = [.slice A l.length c] ∧ RdK (KR (gf F)) Any w A c l :=
  open_rd (KR (gf F)) Tryz.underlying23 cellsL bytesL h hw (fun m hm cs' y hy hwy => by
    obtain ⟨A, c, l, e, hd⟩ := open_exprsF (F := F) (by omega) hy hwy
    exact ⟨l, A, c, e, hd⟩)
theorem list8 {α : Type} {cs : List α} (h : cs.length = 8) : ∃ c0 c1 c2 c3 c4 c5 c6 c7, cs = [c0, c1, c2, c3, c4, c5, c6, c7] := by
  match cs, h with
  | [c0, c1, c2, c3, c4, c5, c6, c7], _ => exact ⟨c0, c1, c2, c3, c4, c5, c6, c7, rfl⟩
theorem list2' {α : Type} {cs : List α} (h : cs.length = 2) : ∃ c0 c1, cs = [c0, c1] := by
  match cs, h with
  | [c0, c1], _ => exact ⟨c0, c1, rfl⟩
set_option maxRecDepth 100000 in
theorem open_setF {f F : Nat} (hF : f ≤ F) {cs : List Value} {x : DataW H × List MemPlace} (h : DataW.trod enc Tryz.prog w base spare held f 59 cs = some x) (hw : Lt 59 x.1) :
    ∃ (z : Sx (gf F)) (a : Option Addr) (c : Nat), cs = (KS (gf F)).cs z a c ∧ (KS (gf F)).dp Any w z a c := by
  obtain ⟨xs, m, hm, rfl, hlen, hxl, hf⟩ := DataW.trod_struct Tryz.underlying59 h
  rw [cellsSx] at hlen
  obtain ⟨c0, c1, c2, c3, c4, c5, c6, c7, rfl⟩ := list8 hlen
  obtain ⟨x0, x1, rfl⟩ := list2' (hxl.trans rfl)
  have h0 : DataW.trod enc Tryz.prog w base spare held m 9 [c0] = some x0 := take_as (cs := [c0, c1, c2, c3, c4, c5, c6, c7]) (hf 0 _ rfl) cellsS
  have h1 : DataW.trod enc Tryz.prog w base spare held m 51 [c1, c2, c3, c4, c5, c6, c7] = some x1 := take_as (cs := [c1, c2, c3, c4, c5, c6, c7]) (hf 1 _ rfl) cellsE
  obtain ⟨s, e0, _, _⟩ := DataW.trod_string Tryz.underlying9 h0
  have hw1 : Lt 51 x1.1 := fun n hn => hw n (by
    simp only [DataW.weights, Tryz.underlying59]
    exact DataW.weights_mem_each (j := 1) rfl rfl n hn)
  obtain ⟨y, a, c, e1, hd⟩ := open_exF (F := F) (by omega) h1 hw1
  simp only [List.cons.injEq, and_true] at e0
  subst e0
  rw [e1]
  exact ⟨⟨s, y⟩, a, c, rfl, hd⟩
theorem open_setsF {f F : Nat} (hF : f ≤ F) {cs : List Value} {x : DataW H × List MemPlace} (h : DataW.trod enc Tryz.prog w base spare held f 24 cs = some x) (hw : Lt 24 x.1) :
    ∃ (A : Option Addr) (c : Nat) (l : List (Sx (gf F))), cs = [.slice A l.length c] ∧ RdK (KS (gf F)) Any w A c l :=
  open_rd (KS (gf F)) Tryz.underlying24 cellsSx bytesSx h hw (fun m hm cs' y hy hwy => open_setF (by omega) hy hwy)
set_option maxRecDepth 100000 in
theorem open_colF {f : Nat} {cs : List Value} {x : DataW H × List MemPlace} (h : DataW.trod enc Tryz.prog w base spare held f 82 cs = some x) : ∃ (z : Cl) (a : Option Addr) (c : Nat), cs = KC.cs z a c ∧ KC.dp Any w z a c := by
  obtain ⟨xs, m, hm, rfl, hlen, hxl, hf⟩ := DataW.trod_struct Tryz.underlying82 h
  rw [cellsCl] at hlen
  obtain ⟨c0, c1, c2, rfl⟩ := list3 hlen
  obtain ⟨x0, x1, x2, rfl⟩ := list3 (hxl.trans rfl)
  have h0 : DataW.trod enc Tryz.prog w base spare held m 9 [c0] = some x0 := take_as (cs := [c0, c1, c2]) (hf 0 _ rfl) cellsS
  have h1 : DataW.trod enc Tryz.prog w base spare held m 3 [c1] = some x1 := take_as (cs := [c1, c2]) (hf 1 _ rfl) cellsI
  have h2 : DataW.trod enc Tryz.prog w base spare held m 4 [c2] = some x2 := take_as (cs := [c2]) (hf 2 _ rfl) cellsB
  obtain ⟨s, e0, _, _⟩ := DataW.trod_string Tryz.underlying9 h0
  obtain ⟨k, e1, _, _⟩ := DataW.trod_int Tryz.underlying3 h1
  obtain ⟨b, e2, _⟩ := DataW.trod_bool Tryz.underlying4 h2
  simp only [List.cons.injEq, and_true] at e0 e1 e2
  subst e0 e1 e2
  exact ⟨⟨s, k, b⟩, none, 0, rfl, trivial⟩
theorem open_colsF {f : Nat} {cs : List Value} {x : DataW H × List MemPlace} (h : DataW.trod enc Tryz.prog w base spare held f 22 cs = some x) (hw : Lt 22 x.1) :
    ∃ (A : Option Addr) (c : Nat) (l : List Cl), cs = [.slice A l.length c] ∧ RdK KC Any w A c l :=
  open_rd KC Tryz.underlying22 cellsCl bytesCl h hw (fun m hm cs' y hy hwy => open_colF hy)
set_option maxRecDepth 100000 in
theorem open_ordF {f : Nat} {cs : List Value} {x : DataW H × List MemPlace} (h : DataW.trod enc Tryz.prog w base spare held f 85 cs = some x) : ∃ (z : Od) (a : Option Addr) (c : Nat), cs = KO.cs z a c ∧ KO.dp Any w z a c := by
  obtain ⟨xs, m, hm, rfl, hlen, hxl, hf⟩ := DataW.trod_struct Tryz.underlying85 h
  rw [cellsOd] at hlen
  obtain ⟨c0, c1, rfl⟩ := list2' hlen
  obtain ⟨x0, x1, rfl⟩ := list2' (hxl.trans rfl)
  have h0 : DataW.trod enc Tryz.prog w base spare held m 3 [c0] = some x0 := take_as (cs := [c0, c1]) (hf 0 _ rfl) cellsI
  have h1 : DataW.trod enc Tryz.prog w base spare held m 4 [c1] = some x1 := take_as (cs := [c1]) (hf 1 _ rfl) cellsB
  obtain ⟨k, e0, _, _⟩ := DataW.trod_int Tryz.underlying3 h0
  obtain ⟨b, e1, _⟩ := DataW.trod_bool Tryz.underlying4 h1
  simp only [List.cons.injEq, and_true] at e0 e1
  subst e0 e1
  exact ⟨⟨k, b⟩, none, 0, rfl, trivial⟩
theorem open_ordsF {f : Nat} {cs : List Value} {x : DataW H × List MemPlace} (h : DataW.trod enc Tryz.prog w base spare held f 26 cs = some x) (hw : Lt 26 x.1) :
    ∃ (A : Option Addr) (c : Nat) (l : List Od), cs = [.slice A l.length c] ∧ RdK KO Any w A c l :=
  open_rd KO Tryz.underlying26 cellsOd bytesOd h hw (fun m hm cs' y hy hwy => open_ordF hy)
theorem list14 {α : Type} {cs : List α} (h : cs.length = 14) : ∃ c0 c1 c2 c3 c4 c5 c6 c7 c8 c9 c10 c11 c12 c13, cs = [c0, c1, c2, c3, c4, c5, c6, c7, c8, c9, c10, c11, c12, c13] := by
  match cs, h with
  | [c0, c1, c2, c3, c4, c5, c6, c7, c8, c9, c10, c11, c12, c13], _ => exact ⟨c0, c1, c2, c3, c4, c5, c6, c7, c8, c9, c10, c11, c12, c13, rfl⟩

set_option maxRecDepth 100000 in
set_option maxHeartbeats 4000000 in
theorem open_stF {f F : Nat} (hF : f ≤ F) {cs : List Value} {x : DataW H × List MemPlace} (h : DataW.trod enc Tryz.prog w base spare held f 28 cs = some x) (hw : Lt 28 x.1) :
    ∃ (z : St (gf F)) (hs : Hs), cs = (z.cs hs).toList ∧ RdSt Any w z hs := by
  obtain ⟨xs, m, hm, rfl, hlen, hxl, hf⟩ := DataW.trod_struct Tryz.underlying28 h
  rw [cellsSt14] at hlen
  obtain ⟨c0, c1, c2, c3, c4, c5, c6, c7, c8, c9, c10, c11, c12, c13, rfl⟩ := list14 hlen
  obtain ⟨x0, x1, x2, x3, x4, x5, x6, x7, x8, x9, x10, x11, x12, x13, rfl⟩ := list14 (hxl.trans rfl)
  clear hlen hxl h
  have h0 : DataW.trod enc Tryz.prog w base spare held m 3 [c0] = some x0 := take_as (cs := [c0, c1, c2, c3, c4, c5, c6, c7, c8, c9, c10, c11, c12, c13]) (hf 0 _ rfl) cellsI
  have h1 : DataW.trod enc Tryz.prog w base spare held m 9 [c1] = some x1 := take_as (cs := [c1, c2, c3, c4, c5, c6, c7, c8, c9, c10, c11, c12, c13]) (hf 1 _ rfl) cellsS
  have h2 : DataW.trod enc Tryz.prog w base spare held m 22 [c2] = some x2 := take_as (cs := [c2, c3, c4, c5, c6, c7, c8, c9, c10, c11, c12, c13]) (hf 2 _ rfl) cellsLC
  have h3 : DataW.trod enc Tryz.prog w base spare held m 9 [c3] = some x3 := take_as (cs := [c3, c4, c5, c6, c7, c8, c9, c10, c11, c12, c13]) (hf 3 _ rfl) cellsS
  have h4 : DataW.trod enc Tryz.prog w base spare held m 9 [c4] = some x4 := take_as (cs := [c4, c5, c6, c7, c8, c9, c10, c11, c12, c13]) (hf 4 _ rfl) cellsS
  have h5 : DataW.trod enc Tryz.prog w base spare held m 23 [c5] = some x5 := take_as (cs := [c5, c6, c7, c8, c9, c10, c11, c12, c13]) (hf 5 _ rfl) cellsR
  have h6 : DataW.trod enc Tryz.prog w base spare held m 24 [c6] = some x6 := take_as (cs := [c6, c7, c8, c9, c10, c11, c12, c13]) (hf 6 _ rfl) cellsLS
  have h7 : DataW.trod enc Tryz.prog w base spare held m 25 [c7] = some x7 := take_as (cs := [c7, c8, c9, c10, c11, c12, c13]) (hf 7 _ rfl) cellsL
  have h8 : DataW.trod enc Tryz.prog w base spare held m 9 [c8] = some x8 := take_as (cs := [c8, c9, c10, c11, c12, c13]) (hf 8 _ rfl) cellsS
  have h9 : DataW.trod enc Tryz.prog w base spare held m 25 [c9] = some x9 := take_as (cs := [c9, c10, c11, c12, c13]) (hf 9 _ rfl) cellsL
  have h10 : DataW.trod enc Tryz.prog w base spare held m 25 [c10] = some x10 := take_as (cs := [c10, c11, c12, c13]) (hf 10 _ rfl) cellsL
  have h11 : DataW.trod enc Tryz.prog w base spare held m 25 [c11] = some x11 := take_as (cs := [c11, c12, c13]) (hf 11 _ rfl) cellsL
  have h12 : DataW.trod enc Tryz.prog w base spare held m 26 [c12] = some x12 := take_as (cs := [c12, c13]) (hf 12 _ rfl) cellsLO
  have h13 : DataW.trod enc Tryz.prog w base spare held m 3 [c13] = some x13 := take_as (cs := [c13]) (hf 13 _ rfl) cellsI
  have hwj : ∀ (j : Nat) (t : TypeId) (d : DataW H × List MemPlace), ([x0, x1, x2, x3, x4, x5, x6, x7, x8, x9, x10, x11, x12, x13] : List (DataW H × List MemPlace))[j]? = some d → ((Tryz.prog.fieldsOf 28).toList.map (·.type))[j]? = some t → Lt t d.1 := fun j t d hd ht n hn => hw n (by
    simp only [DataW.weights, Tryz.underlying28]
    refine DataW.weights_mem_each (j := j) ?_ ?_ n hn
    · exact ht
    · rw [List.getElem?_map, hd]; rfl)
  clear hf hw
  obtain ⟨v0, e0, _, _⟩ := DataW.trod_int Tryz.underlying3 h0
  obtain ⟨v1, e1, _, _⟩ := DataW.trod_string Tryz.underlying9 h1
  obtain ⟨A2, k2, v2, e2, r2⟩ := open_colsF h2 (hwj 2 22 x2 rfl rfl)
  obtain ⟨v3, e3, _, _⟩ := DataW.trod_string Tryz.underlying9 h3
  obtain ⟨v4, e4, _, _⟩ := DataW.trod_string Tryz.underlying9 h4
  obtain ⟨A5, k5, v5, e5, r5⟩ := open_rowsF (F := F) (by omega) h5 (hwj 5 23 x5 rfl rfl)
  obtain ⟨A6, k6, v6, e6, r6⟩ := open_setsF (F := F) (by omega) h6 (hwj 6 24 x6 rfl rfl)
  obtain ⟨A7, k7, v7, e7, r7⟩ := open_exprsF (F := F) (by omega) h7 (hwj 7 25 x7 rfl rfl)
  obtain ⟨v8, e8, _, _⟩ := DataW.trod_string Tryz.underlying9 h8
  obtain ⟨A9, k9, v9, e9, r9⟩ := open_exprsF (F := F) (by omega) h9 (hwj 9 25 x9 rfl rfl)
  obtain ⟨A10, k10, v10, e10, r10⟩ := open_exprsF (F := F) (by omega) h10 (hwj 10 25 x10 rfl rfl)
  obtain ⟨A11, k11, v11, e11, r11⟩ := open_exprsF (F := F) (by omega) h11 (hwj 11 25 x11 rfl rfl)
  obtain ⟨A12, k12, v12, e12, r12⟩ := open_ordsF h12 (hwj 12 26 x12 rfl rfl)
  obtain ⟨v13, e13, _, _⟩ := DataW.trod_int Tryz.underlying3 h13
  simp only [List.cons.injEq, and_true] at e0 e1 e2 e3 e4 e5 e6 e7 e8 e9 e10 e11 e12 e13
  subst e0 e1 e2 e3 e4 e5 e6 e7 e8 e9 e10 e11 e12 e13
  exact ⟨⟨v0, v1, v2, v3, v4, v5, v6, v7, v8, v9, v10, v11, v12, v13⟩, ⟨⟨A2, k2⟩, ⟨A5, k5⟩, ⟨A6, k6⟩, ⟨A7, k7⟩, ⟨A9, k9⟩, ⟨A10, k10⟩, ⟨A11, k11⟩, ⟨A12, k12⟩⟩, rfl, ⟨r2, r5, r6, r7, r9, r10, r11, r12⟩⟩
set_option maxRecDepth 100000 in
theorem open_stmt {r : Reach} {b0 : Nat} {v : Value} {d : DataW H} {q : List MemPlace} (hv : Value.okWide Tryz.prog w r b0 28 v) (h : DataW.Trod enc Tryz.prog w base spare held 28 v d q) (hw : Lt 28 d) :
    ∃ f0 : Nat, ∀ F, f0 ≤ F → ∃ (z : St (gf F)) (hs : Hs), v = z.val hs ∧ RdSt Any w z hs := by
  obtain ⟨cs, rfl, hsz⟩ := okWide_struct Tryz.underlying28 hv
  obtain ⟨fuel, hf⟩ := h
  refine ⟨fuel, fun F hF => ?_⟩
  obtain ⟨z, hs, e, hr⟩ := open_stF hF hf hw
  refine ⟨z, hs, ?_, hr⟩
  have e2 : cs.toList = (z.cs hs).toList := by simpa [Value.cells] using e
  have e3 : cs = z.cs hs := Array.toList_inj.1 e2
  rw [e3]
end
end Go.Proofs.YtnbgnofbeklmkaaGreatDoor
/- The reference's Same: the walk. Conditions: statements that are read in memory. -/
namespace Go.Proofs.YtnbgnofbeklmkaaGreatDoor
open Go.RowKit
set_option linter.unusedSimpArgs false
set_option linter.unusedVariables false

/-- What Same is to answer. -/
noncomputable def sameX {n : Nat} (x y : St n) : Bool := decide (chkSt x = 0) && decide (chkSt y = 0) && eqX x y
set_option maxHeartbeats 4000000 in
set_option maxRecDepth 100000 in
theorem rSame_any {n : Nat} (x y : St n) (h h' : Hs) (w : World) (hr : RdSt Any w x h) (hr' : RdSt Any w y h') :
    Calls Tryz.prog 22 #[x.val h, y.val h'] w fun e w' => e = .returned (.bool (sameX x y)) ∧ Below w.heap.size w w' := by
  have HX := Lib.hid fun (w' : World) (hb : Below w.heap.size w w') => rCheck_any x h w' (hr.below hb)
  have HY := Lib.hid fun (w' : World) (hb : Below w.heap.size w w') => rCheck_any y h' w' (hr'.below hb)
  have HA := Lib.hid fun (w' : World) (hb : Below w.heap.size w w') => rAlike_any x y h h' w' (hr.below hb) (hr'.below hb)
  clear hr hr'
  unfold sameX
  generalize chkSt x = EX at *
  generalize chkSt y = EY at *
  generalize eqX x y = Q at *
  have HQ : Hid ((EX == 0) = decide (EX = 0)) := Lib.hid (by rw [Bool.eq_iff_iff]; simp)
  have HQ2 : Hid ((EY == 0) = decide (EY = 0)) := Lib.hid (by rw [Bool.eq_iff_iff]; simp)
  generalize decide (EX = 0) = qx at *
  generalize decide (EY = 0) = qy at *
  obtain ⟨kind, tb, cols, key, ix, rows, sets, items, jn, on, wh, gr, ord, lim⟩ := x
  obtain ⟨⟨aC, cC⟩, ⟨aR, cR⟩, ⟨aS, cS⟩, ⟨aI, cI⟩, ⟨aO, cO⟩, ⟨aW, cW⟩, ⟨aG, cG⟩, ⟨aD, cD⟩⟩ := h
  obtain ⟨kind', tb', cols', key', ix', rows', sets', items', jn', on', wh', gr', ord', lim'⟩ := y
  obtain ⟨⟨aC', cC'⟩, ⟨aR', cR'⟩, ⟨aS', cS'⟩, ⟨aI', cI'⟩, ⟨aO', cO'⟩, ⟨aW', cW'⟩, ⟨aG', cG'⟩, ⟨aD', cD'⟩⟩ := h'
  unfold St.val St.cs at HX HY HA ⊢
  dsimp only at HX HY HA ⊢
  have hx := HQ.out
  have hy := HQ2.out
  clear HQ HQ2
  cases qx
  · clear hy HY HA
    go_enter Tryz.func22, Tryz.ntmps22
    go_upto_region 1 with fail
    have hX := heap_on (heap_alloc_new w (.cells #[.int .i64 kind, .string tb, .slice aC cols.length cC, .string key, .string ix, .slice aR rows.length cR, .slice aS sets.length cS, .slice aI items.length cI, .string jn, .slice aO on.length cO, .slice aW wh.length cW, .slice aG gr.length cG, .slice aD ord.length cD, .int .i64 lim] 28)) (.cells #[.int .i64 kind', .string tb', .slice aC' cols'.length cC', .string key', .string ix', .slice aR' rows'.length cR', .slice aS' sets'.length cS', .slice aI' items'.length cI', .string jn', .slice aO' on'.length cO', .slice aW' wh'.length cW', .slice aG' gr'.length cG', .slice aD' ord'.length cD', .int .i64 lim'] 28)
    have hY := heap_two w (.cells #[.int .i64 kind, .string tb, .slice aC cols.length cC, .string key, .string ix, .slice aR rows.length cR, .slice aS sets.length cS, .slice aI items.length cI, .string jn, .slice aO on.length cO, .slice aW wh.length cW, .slice aG gr.length cG, .slice aD ord.length cD, .int .i64 lim] 28) (.cells #[.int .i64 kind', .string tb', .slice aC' cols'.length cC', .string key', .string ix', .slice aR' rows'.length cR', .slice aS' sets'.length cS', .slice aI' items'.length cI', .string jn', .slice aO' on'.length cO', .slice aW' wh'.length cW', .slice aG' gr'.length cG', .slice aD' ord'.length cD', .int .i64 lim'] 28)
    have HB := Lib.hid (below2 w (.cells #[.int .i64 kind, .string tb, .slice aC cols.length cC, .string key, .string ix, .slice aR rows.length cR, .slice aS sets.length cS, .slice aI items.length cI, .string jn, .slice aO on.length cO, .slice aW wh.length cW, .slice aG gr.length cG, .slice aD ord.length cD, .int .i64 lim] 28) (.cells #[.int .i64 kind', .string tb', .slice aC' cols'.length cC', .string key', .string ix', .slice aR' rows'.length cR', .slice aS' sets'.length cS', .slice aI' items'.length cI', .string jn', .slice aO' on'.length cO', .slice aW' wh'.length cW', .slice aG' gr'.length cG', .slice aD' ord'.length cD', .int .i64 lim'] 28))
    generalize ((w.alloc (.cells #[.int .i64 kind, .string tb, .slice aC cols.length cC, .string key, .string ix, .slice aR rows.length cR, .slice aS sets.length cS, .slice aI items.length cI, .string jn, .slice aO on.length cO, .slice aW wh.length cW, .slice aG gr.length cG, .slice aD ord.length cD, .int .i64 lim] 28)).alloc (.cells #[.int .i64 kind', .string tb', .slice aC' cols'.length cC', .string key', .string ix', .slice aR' rows'.length cR', .slice aS' sets'.length cS', .slice aI' items'.length cI', .string jn', .slice aO' on'.length cO', .slice aW' wh'.length cW', .slice aG' gr'.length cG', .slice aD' ord'.length cD', .int .i64 lim'] 28)) = W at *
    obtain ⟨x0, x1, x2, x3, x4, x5, x6, x7, x8, x9, x10, x11, x12, x13⟩ := cells14 hX
    obtain ⟨y0, y1, y2, y3, y4, y5, y6, y7, y8, y9, y10, y11, y12, y13⟩ := cells14 hY
    go_wp2_with (first | (go_at_call 16; refine (HX.out _ HB.out).mono ?_; rintro e w1 ⟨rfl, hb⟩; replace hX := (hb.block _ (heap_lt hX)).trans hX; replace hY := (hb.block _ (heap_lt hY)).trans hY; have HB1 := Lib.hid (below_call hb HB.out HB.out.size); clear hb HB x0 x1 x2 x3 x4 x5 x6 x7 x8 x9 x10 x11 x12 x13 y0 y1 y2 y3 y4 y5 y6 y7 y8 y9 y10 y11 y12 y13; obtain ⟨x0, x1, x2, x3, x4, x5, x6, x7, x8, x9, x10, x11, x12, x13⟩ := cells14 hX; obtain ⟨y0, y1, y2, y3, y4, y5, y6, y7, y8, y9, y10, y11, y12, y13⟩ := cells14 hY))
    go_ret
    exact ⟨rfl, HB1.out⟩
  · cases qy
    · clear HA
      go_enter Tryz.func22, Tryz.ntmps22
      go_upto_region 1 with fail
      have hX := heap_on (heap_alloc_new w (.cells #[.int .i64 kind, .string tb, .slice aC cols.length cC, .string key, .string ix, .slice aR rows.length cR, .slice aS sets.length cS, .slice aI items.length cI, .string jn, .slice aO on.length cO, .slice aW wh.length cW, .slice aG gr.length cG, .slice aD ord.length cD, .int .i64 lim] 28)) (.cells #[.int .i64 kind', .string tb', .slice aC' cols'.length cC', .string key', .string ix', .slice aR' rows'.length cR', .slice aS' sets'.length cS', .slice aI' items'.length cI', .string jn', .slice aO' on'.length cO', .slice aW' wh'.length cW', .slice aG' gr'.length cG', .slice aD' ord'.length cD', .int .i64 lim'] 28)
      have hY := heap_two w (.cells #[.int .i64 kind, .string tb, .slice aC cols.length cC, .string key, .string ix, .slice aR rows.length cR, .slice aS sets.length cS, .slice aI items.length cI, .string jn, .slice aO on.length cO, .slice aW wh.length cW, .slice aG gr.length cG, .slice aD ord.length cD, .int .i64 lim] 28) (.cells #[.int .i64 kind', .string tb', .slice aC' cols'.length cC', .string key', .string ix', .slice aR' rows'.length cR', .slice aS' sets'.length cS', .slice aI' items'.length cI', .string jn', .slice aO' on'.length cO', .slice aW' wh'.length cW', .slice aG' gr'.length cG', .slice aD' ord'.length cD', .int .i64 lim'] 28)
      have HB := Lib.hid (below2 w (.cells #[.int .i64 kind, .string tb, .slice aC cols.length cC, .string key, .string ix, .slice aR rows.length cR, .slice aS sets.length cS, .slice aI items.length cI, .string jn, .slice aO on.length cO, .slice aW wh.length cW, .slice aG gr.length cG, .slice aD ord.length cD, .int .i64 lim] 28) (.cells #[.int .i64 kind', .string tb', .slice aC' cols'.length cC', .string key', .string ix', .slice aR' rows'.length cR', .slice aS' sets'.length cS', .slice aI' items'.length cI', .string jn', .slice aO' on'.length cO', .slice aW' wh'.length cW', .slice aG' gr'.length cG', .slice aD' ord'.length cD', .int .i64 lim'] 28))
      generalize ((w.alloc (.cells #[.int .i64 kind, .string tb, .slice aC cols.length cC, .string key, .string ix, .slice aR rows.length cR, .slice aS sets.length cS, .slice aI items.length cI, .string jn, .slice aO on.length cO, .slice aW wh.length cW, .slice aG gr.length cG, .slice aD ord.length cD, .int .i64 lim] 28)).alloc (.cells #[.int .i64 kind', .string tb', .slice aC' cols'.length cC', .string key', .string ix', .slice aR' rows'.length cR', .slice aS' sets'.length cS', .slice aI' items'.length cI', .string jn', .slice aO' on'.length cO', .slice aW' wh'.length cW', .slice aG' gr'.length cG', .slice aD' ord'.length cD', .int .i64 lim'] 28)) = W at *
      obtain ⟨x0, x1, x2, x3, x4, x5, x6, x7, x8, x9, x10, x11, x12, x13⟩ := cells14 hX
      obtain ⟨y0, y1, y2, y3, y4, y5, y6, y7, y8, y9, y10, y11, y12, y13⟩ := cells14 hY
      go_wp2_with (first | (go_at_call 16; refine (HY.out _ HB1.out).mono ?_; rintro e w2 ⟨rfl, hb⟩; replace hX := (hb.block _ (heap_lt hX)).trans hX; replace hY := (hb.block _ (heap_lt hY)).trans hY; have HB2 := Lib.hid (below_call hb HB1.out HB1.out.size); clear hb HB1 x0 x1 x2 x3 x4 x5 x6 x7 x8 x9 x10 x11 x12 x13 y0 y1 y2 y3 y4 y5 y6 y7 y8 y9 y10 y11 y12 y13; obtain ⟨x0, x1, x2, x3, x4, x5, x6, x7, x8, x9, x10, x11, x12, x13⟩ := cells14 hX; obtain ⟨y0, y1, y2, y3, y4, y5, y6, y7, y8, y9, y10, y11, y12, y13⟩ := cells14 hY) | (go_at_call 16; refine (HX.out _ HB.out).mono ?_; rintro e w1 ⟨rfl, hb⟩; replace hX := (hb.block _ (heap_lt hX)).trans hX; replace hY := (hb.block _ (heap_lt hY)).trans hY; have HB1 := Lib.hid (below_call hb HB.out HB.out.size); clear hb HB x0 x1 x2 x3 x4 x5 x6 x7 x8 x9 x10 x11 x12 x13 y0 y1 y2 y3 y4 y5 y6 y7 y8 y9 y10 y11 y12 y13; obtain ⟨x0, x1, x2, x3, x4, x5, x6, x7, x8, x9, x10, x11, x12, x13⟩ := cells14 hX; obtain ⟨y0, y1, y2, y3, y4, y5, y6, y7, y8, y9, y10, y11, y12, y13⟩ := cells14 hY))
      go_ret
      exact ⟨rfl, HB2.out⟩
    · skip
      go_enter Tryz.func22, Tryz.ntmps22
      go_upto_region 1 with fail
      have hX := heap_on (heap_alloc_new w (.cells #[.int .i64 kind, .string tb, .slice aC cols.length cC, .string key, .string ix, .slice aR rows.length cR, .slice aS sets.length cS, .slice aI items.length cI, .string jn, .slice aO on.length cO, .slice aW wh.length cW, .slice aG gr.length cG, .slice aD ord.length cD, .int .i64 lim] 28)) (.cells #[.int .i64 kind', .string tb', .slice aC' cols'.length cC', .string key', .string ix', .slice aR' rows'.length cR', .slice aS' sets'.length cS', .slice aI' items'.length cI', .string jn', .slice aO' on'.length cO', .slice aW' wh'.length cW', .slice aG' gr'.length cG', .slice aD' ord'.length cD', .int .i64 lim'] 28)
      have hY := heap_two w (.cells #[.int .i64 kind, .string tb, .slice aC cols.length cC, .string key, .string ix, .slice aR rows.length cR, .slice aS sets.length cS, .slice aI items.length cI, .string jn, .slice aO on.length cO, .slice aW wh.length cW, .slice aG gr.length cG, .slice aD ord.length cD, .int .i64 lim] 28) (.cells #[.int .i64 kind', .string tb', .slice aC' cols'.length cC', .string key', .string ix', .slice aR' rows'.length cR', .slice aS' sets'.length cS', .slice aI' items'.length cI', .string jn', .slice aO' on'.length cO', .slice aW' wh'.length cW', .slice aG' gr'.length cG', .slice aD' ord'.length cD', .int .i64 lim'] 28)
      have HB := Lib.hid (below2 w (.cells #[.int .i64 kind, .string tb, .slice aC cols.length cC, .string key, .string ix, .slice aR rows.length cR, .slice aS sets.length cS, .slice aI items.length cI, .string jn, .slice aO on.length cO, .slice aW wh.length cW, .slice aG gr.length cG, .slice aD ord.length cD, .int .i64 lim] 28) (.cells #[.int .i64 kind', .string tb', .slice aC' cols'.length cC', .string key', .string ix', .slice aR' rows'.length cR', .slice aS' sets'.length cS', .slice aI' items'.length cI', .string jn', .slice aO' on'.length cO', .slice aW' wh'.length cW', .slice aG' gr'.length cG', .slice aD' ord'.length cD', .int .i64 lim'] 28))
      generalize ((w.alloc (.cells #[.int .i64 kind, .string tb, .slice aC cols.length cC, .string key, .string ix, .slice aR rows.length cR, .slice aS sets.length cS, .slice aI items.length cI, .string jn, .slice aO on.length cO, .slice aW wh.length cW, .slice aG gr.length cG, .slice aD ord.length cD, .int .i64 lim] 28)).alloc (.cells #[.int .i64 kind', .string tb', .slice aC' cols'.length cC', .string key', .string ix', .slice aR' rows'.length cR', .slice aS' sets'.length cS', .slice aI' items'.length cI', .string jn', .slice aO' on'.length cO', .slice aW' wh'.length cW', .slice aG' gr'.length cG', .slice aD' ord'.length cD', .int .i64 lim'] 28)) = W at *
      obtain ⟨x0, x1, x2, x3, x4, x5, x6, x7, x8, x9, x10, x11, x12, x13⟩ := cells14 hX
      obtain ⟨y0, y1, y2, y3, y4, y5, y6, y7, y8, y9, y10, y11, y12, y13⟩ := cells14 hY
      go_wp2_with (first | (go_at_call 59; refine (HA.out _ HB2.out).mono ?_; rintro e w3 ⟨rfl, hb⟩; replace hX := (hb.block _ (heap_lt hX)).trans hX; replace hY := (hb.block _ (heap_lt hY)).trans hY; have HB3 := Lib.hid (below_call hb HB2.out HB2.out.size); clear hb HB2 x0 x1 x2 x3 x4 x5 x6 x7 x8 x9 x10 x11 x12 x13 y0 y1 y2 y3 y4 y5 y6 y7 y8 y9 y10 y11 y12 y13; obtain ⟨x0, x1, x2, x3, x4, x5, x6, x7, x8, x9, x10, x11, x12, x13⟩ := cells14 hX; obtain ⟨y0, y1, y2, y3, y4, y5, y6, y7, y8, y9, y10, y11, y12, y13⟩ := cells14 hY) | (go_at_call 16; refine (HY.out _ HB1.out).mono ?_; rintro e w2 ⟨rfl, hb⟩; replace hX := (hb.block _ (heap_lt hX)).trans hX; replace hY := (hb.block _ (heap_lt hY)).trans hY; have HB2 := Lib.hid (below_call hb HB1.out HB1.out.size); clear hb HB1 x0 x1 x2 x3 x4 x5 x6 x7 x8 x9 x10 x11 x12 x13 y0 y1 y2 y3 y4 y5 y6 y7 y8 y9 y10 y11 y12 y13; obtain ⟨x0, x1, x2, x3, x4, x5, x6, x7, x8, x9, x10, x11, x12, x13⟩ := cells14 hX; obtain ⟨y0, y1, y2, y3, y4, y5, y6, y7, y8, y9, y10, y11, y12, y13⟩ := cells14 hY) | (go_at_call 16; refine (HX.out _ HB.out).mono ?_; rintro e w1 ⟨rfl, hb⟩; replace hX := (hb.block _ (heap_lt hX)).trans hX; replace hY := (hb.block _ (heap_lt hY)).trans hY; have HB1 := Lib.hid (below_call hb HB.out HB.out.size); clear hb HB x0 x1 x2 x3 x4 x5 x6 x7 x8 x9 x10 x11 x12 x13 y0 y1 y2 y3 y4 y5 y6 y7 y8 y9 y10 y11 y12 y13; obtain ⟨x0, x1, x2, x3, x4, x5, x6, x7, x8, x9, x10, x11, x12, x13⟩ := cells14 hX; obtain ⟨y0, y1, y2, y3, y4, y5, y6, y7, y8, y9, y10, y11, y12, y13⟩ := cells14 hY))
      go_ret
      exact ⟨by simp, HB3.out⟩
end Go.Proofs.YtnbgnofbeklmkaaGreatDoor
/- SyntaxSame answers true: the walk. Conditions: two statements that are read in memory; the tables that strconv and strings read, as they are laid. -/
namespace Go.Proofs.YtnbgnofbeklmkaaGreatDoor
open Go.RowKit
set_option linter.unusedSimpArgs false
set_option linter.unusedVariables false

section
variable {P : Program} {ops : Array Oper} {md : Region.Mode} {Q : Exit → Act → World → Prop} {S : World → Prop} {hd : List Nat}
/-- Each of those that may come up, one at a time. -/
def AllT (P : Program) (md : Region.Mode) (ops : Array Oper) (Q : Exit → Act → World → Prop) (S : World → Prop) (hd : List Nat) (f : Nat) (li : Array Bool) (a : Act) (w : World) : List Nat → Prop
  | [] => True
  | k :: rs => (∃ o, ops[k]? = some o ∧ ∀ K' : Act → World → Prop, Shut (∀ a w, S w → (S w → Closed md ops (li.setIfInBounds k true) → anyT P md ops Q S hd f (li.setIfInBounds k true) a w) → K' a w) → if Region.wanted o (yielded ops a.tmps) = true then Oper.wp P o a w K' Q else K' (a.put o.dst undef) w) ∧ AllT P md ops Q S hd f li a w rs
theorem AllT.mem {f : Nat} {li : Array Bool} {a : Act} {w : World} (hc : Closed md ops li) : ∀ {rs : List Nat}, AllT P md ops Q S hd f li a w rs → (∀ i ∈ rs, i ∈ Region.ready md ops li) → ∀ i ∈ rs, wpOp P ops Q i (fun a' w' => (hd.contains i = true → S w') ∧ anyT P md ops Q S hd f (li.setIfInBounds i true) a' w') a w
  | [], _, _, i, hi => by cases hi
  | k :: rs, h, hr, i, hi => by
    obtain ⟨⟨o, ho, h1⟩, h2⟩ := h
    rcases List.mem_cons.1 hi with rfl | hi
    · exact wpOp_step ho (fun K' hK => h1 K' (fun a w hS hW => hK a w ⟨fun _ => hS, hW hS (hc.set (hr _ (List.mem_cons_self ..)))⟩))
    · exact AllT.mem hc h2 (fun j hj => hr j (List.mem_cons_of_mem _ hj)) i hi
theorem anyT_all {rs : List Nat} {f : Nat} {li : Array Bool} {a : Act} {w : World} (hr : Region.ready md ops li = rs) (hne : rs.isEmpty = false) (hc : Closed md ops li) (h : AllT P md ops Q S hd f li a w rs) : anyT P md ops Q S hd (f + 1) li a w :=
  ⟨fun h0 => (by rw [hr] at h0; subst h0; cases hne), fun i hi => h.mem hc (fun j hj => by rw [hr]; exact hj) i (by rw [hr] at hi; exact hi)⟩
end
theorem RdSt.out {n : Nat} {S : Nat → Prop} {w w' : World} {x : St n} {h : Hs} (r : RdSt S w x h) (ho : Out S w w') : RdSt S w' x h :=
  ⟨RdK.out KC_ok r.C ho, RdK.out (KR_ok n) r.R ho, RdK.out (KS_ok n) r.S ho, RdK.out (KE_ok n) r.I ho, RdK.out (KE_ok n) r.O ho, RdK.out (KE_ok n) r.W ho, RdK.out (KE_ok n) r.G ho, RdK.out KO_ok r.D ho⟩
theorem wp_store14 {op : Oper} {a : Act} {w : World} {K : Act → World → Prop} {Q : Exit → Act → World → Prop} (x y : Operand) (ho : op.op = .store 28 x y) (B : Nat) {a0 a1 a2 a3 a4 a5 a6 a7 a8 a9 a10 a11 a12 a13 v0 v1 v2 v3 v4 v5 v6 v7 v8 v9 v10 v11 v12 v13 : Value} {t : TypeId}
    (hx : a.eval x = .pointer (some ⟨B, 0, none⟩)) (hy : a.eval y = .agg #[v0, v1, v2, v3, v4, v5, v6, v7, v8, v9, v10, v11, v12, v13]) (hb : w.heap[B]? = some (.cells #[a0, a1, a2, a3, a4, a5, a6, a7, a8, a9, a10, a11, a12, a13] t (0, 0))) (h1 : v0.oneCell' = true ∧ v1.oneCell' = true ∧ v2.oneCell' = true ∧ v3.oneCell' = true ∧ v4.oneCell' = true ∧ v5.oneCell' = true ∧ v6.oneCell' = true ∧ v7.oneCell' = true ∧ v8.oneCell' = true ∧ v9.oneCell' = true ∧ v10.oneCell' = true ∧ v11.oneCell' = true ∧ v12.oneCell' = true ∧ v13.oneCell' = true)
    (h : ∀ w', w'.heap[B]? = some (.cells #[v0, v1, v2, v3, v4, v5, v6, v7, v8, v9, v10, v11, v12, v13] t (0, 0)) → (∀ c, c ≠ B → w'.heap[c]? = w.heap[c]?) → Below B w w' → K (a.put op.dst undef) w') : op.wp Tryz.prog a w K Q := by
  refine wp_store_mid 28 x y ho B 0 _ hx hy (fun j hj => ?_) (by kernel_rfl) (by simp [h1]) ?_
  · have hj : j < 14 := hj
    constructor
    · simp [World.cell?, hb, hj]
    · simp [World.frozen?, hb]
  · obtain ⟨e1, e2, e3⟩ := sets14 hb v0 v1 v2 v3 v4 v5 v6 v7 v8 v9 v10 v11 v12 v13
    exact h _ e1 (fun c hc => e2 (fun c => c ≠ B) (by simp) c hc) e3
theorem eqX_one {α : Type} (x : α) : eqX x x = true := eqX_iff.2 rfl

set_option maxHeartbeats 16000000 in
set_option maxRecDepth 100000 in
theorem same_walk {n : Nat} (x y : St n) (h h' : Hs) (w : World) (hr : RdSt Any w x h) (hr' : RdSt Any w y h') (he : Env w.heap.size w) :
    Calls Tryz.prog 4 #[x.val h, y.val h'] w fun e w' => e = .returned (.bool true) ∧ Below w.heap.size w w' := by
  have HCX := Lib.hid fun (w' : World) (hb : Below w.heap.size w w') => copyStmt_any x h w' (hr.below hb)
  have HCY := Lib.hid fun (w' : World) (hb : Below w.heap.size w w') => copyStmt_any y h' w' (hr'.below hb)
  have HK := Lib.hid fun (w' : World) (hb : Below w.heap.size w w') => rCheck_any x h w' (hr.below hb)
  have HM := Lib.hid fun (h1 h2 : Hs) (w' : World) (r1 : RdSt Any w' x h1) (r2 : RdSt Any w' y h2) => sSame_any x y h1 h2 w' r1 r2
  have HM2 := Lib.hid fun (h1 h2 : Hs) (w' : World) (r1 : RdSt Any w' x h1) (r2 : RdSt Any w' x h2) => sSame_any x x h1 h2 w' r1 r2
  have HR := Lib.hid fun (w' : World) (hb : Below w.heap.size w w') => rSame_any x y h h' w' (hr.below hb) (hr'.below hb)
  have HA := Lib.hid fun (w' : World) (hb : Below w.heap.size w w') => alive_any w.heap.size w' (he.below hb) hb.size
  have HE : Hid ((decide (chkSt x = 0) && decide (chkSt x = 0) && eqX x x) = (chkSt x == 0)) := Lib.hid (by rw [eqX_one, Bool.and_true, Bool.and_self, Bool.eq_iff_iff]; simp)
  clear hr hr' he
  unfold sameX at HR
  generalize (decide (chkSt x = 0) && decide (chkSt y = 0) && eqX x y) = QQ at *
  generalize (decide (chkSt x = 0) && decide (chkSt x = 0) && eqX x x) = QX at *
  generalize chkSt x = EX at *
  obtain ⟨kind, tb, cols, key, ix, rows, sets, items, jn, on, wh, gr, ord, lim⟩ := x
  obtain ⟨⟨aC, ac1⟩, ⟨aR, ac2⟩, ⟨aS, ac3⟩, ⟨aI, ac4⟩, ⟨aO, ac5⟩, ⟨aW, ac6⟩, ⟨aG, ac7⟩, ⟨aD, ac8⟩⟩ := h
  obtain ⟨kind', tb', cols', key', ix', rows', sets', items', jn', on', wh', gr', ord', lim'⟩ := y
  obtain ⟨⟨dC, dc1⟩, ⟨dR, dc2⟩, ⟨dS, dc3⟩, ⟨dI, dc4⟩, ⟨dO, dc5⟩, ⟨dW, dc6⟩, ⟨dG, dc7⟩, ⟨dD, dc8⟩⟩ := h'
  unfold St.val St.cs at HCX HCY HK HM HM2 HR ⊢
  dsimp only at HCX HCY HK HM HM2 HR ⊢
  go_enter Tryz.func4, Tryz.ntmps4
  go_upto_region 1 with fail
  have HX := Lib.hid (heap_on (heap_alloc_new w (.cells #[.int .i64 kind, .string tb, .slice aC cols.length ac1, .string key, .string ix, .slice aR rows.length ac2, .slice aS sets.length ac3, .slice aI items.length ac4, .string jn, .slice aO on.length ac5, .slice aW wh.length ac6, .slice aG gr.length ac7, .slice aD ord.length ac8, .int .i64 lim] 28)) (.cells #[.int .i64 kind', .string tb', .slice dC cols'.length dc1, .string key', .string ix', .slice dR rows'.length dc2, .slice dS sets'.length dc3, .slice dI items'.length dc4, .string jn', .slice dO on'.length dc5, .slice dW wh'.length dc6, .slice dG gr'.length dc7, .slice dD ord'.length dc8, .int .i64 lim'] 28))
  have HY := Lib.hid (heap_two w (.cells #[.int .i64 kind, .string tb, .slice aC cols.length ac1, .string key, .string ix, .slice aR rows.length ac2, .slice aS sets.length ac3, .slice aI items.length ac4, .string jn, .slice aO on.length ac5, .slice aW wh.length ac6, .slice aG gr.length ac7, .slice aD ord.length ac8, .int .i64 lim] 28) (.cells #[.int .i64 kind', .string tb', .slice dC cols'.length dc1, .string key', .string ix', .slice dR rows'.length dc2, .slice dS sets'.length dc3, .slice dI items'.length dc4, .string jn', .slice dO on'.length dc5, .slice dW wh'.length dc6, .slice dG gr'.length dc7, .slice dD ord'.length dc8, .int .i64 lim'] 28))
  have HB := Lib.hid (below2 w (.cells #[.int .i64 kind, .string tb, .slice aC cols.length ac1, .string key, .string ix, .slice aR rows.length ac2, .slice aS sets.length ac3, .slice aI items.length ac4, .string jn, .slice aO on.length ac5, .slice aW wh.length ac6, .slice aG gr.length ac7, .slice aD ord.length ac8, .int .i64 lim] 28) (.cells #[.int .i64 kind', .string tb', .slice dC cols'.length dc1, .string key', .string ix', .slice dR rows'.length dc2, .slice dS sets'.length dc3, .slice dI items'.length dc4, .string jn', .slice dO on'.length dc5, .slice dW wh'.length dc6, .slice dG gr'.length dc7, .slice dD ord'.length dc8, .int .i64 lim'] 28))
  have hz0 : w.heap.size + 2 ≤ ((w.alloc (.cells #[.int .i64 kind, .string tb, .slice aC cols.length ac1, .string key, .string ix, .slice aR rows.length ac2, .slice aS sets.length ac3, .slice aI items.length ac4, .string jn, .slice aO on.length ac5, .slice aW wh.length ac6, .slice aG gr.length ac7, .slice aD ord.length ac8, .int .i64 lim] 28)).alloc (.cells #[.int .i64 kind', .string tb', .slice dC cols'.length dc1, .string key', .string ix', .slice dR rows'.length dc2, .slice dS sets'.length dc3, .slice dI items'.length dc4, .string jn', .slice dO on'.length dc5, .slice dW wh'.length dc6, .slice dG gr'.length dc7, .slice dD ord'.length dc8, .int .i64 lim'] 28)).heap.size := by simp
  generalize ((w.alloc (.cells #[.int .i64 kind, .string tb, .slice aC cols.length ac1, .string key, .string ix, .slice aR rows.length ac2, .slice aS sets.length ac3, .slice aI items.length ac4, .string jn, .slice aO on.length ac5, .slice aW wh.length ac6, .slice aG gr.length ac7, .slice aD ord.length ac8, .int .i64 lim] 28)).alloc (.cells #[.int .i64 kind', .string tb', .slice dC cols'.length dc1, .string key', .string ix', .slice dR rows'.length dc2, .slice dS sets'.length dc3, .slice dI items'.length dc4, .string jn', .slice dO on'.length dc5, .slice dW wh'.length dc6, .slice dG gr'.length dc7, .slice dD ord'.length dc8, .int .i64 lim'] 28)) = W at *
  go_cut [5, 6] (fun v5 v6 wd => ∃ (h2 h3 : Hs) (b5 b6 : Nat), v5 = .pointer (some ⟨b5, 0, none⟩) ∧ v6 = .pointer (some ⟨b6, 0, none⟩) ∧ wd.heap[b5]? = some (.cells (St.cs (n := n) ⟨kind, tb, cols, key, ix, rows, sets, items, jn, on, wh, gr, ord, lim⟩ h2) 28 (0, 0)) ∧ wd.heap[b6]? = some (.cells (St.cs (n := n) ⟨kind', tb', cols', key', ix', rows', sets', items', jn', on', wh', gr', ord', lim'⟩ h3) 28 (0, 0)) ∧ RdSt (n := n) Any wd ⟨kind, tb, cols, key, ix, rows, sets, items, jn, on, wh, gr, ord, lim⟩ h2 ∧ RdSt (n := n) Any wd ⟨kind', tb', cols', key', ix', rows', sets', items', jn', on', wh', gr', ord', lim'⟩ h3 ∧ wd.heap[w.heap.size]? = some (.cells #[.int .i64 kind, .string tb, .slice aC cols.length ac1, .string key, .string ix, .slice aR rows.length ac2, .slice aS sets.length ac3, .slice aI items.length ac4, .string jn, .slice aO on.length ac5, .slice aW wh.length ac6, .slice aG gr.length ac7, .slice aD ord.length ac8, .int .i64 lim] 28 (0, 0)) ∧ wd.heap[w.heap.size + 1]? = some (.cells #[.int .i64 kind', .string tb', .slice dC cols'.length dc1, .string key', .string ix', .slice dR rows'.length dc2, .slice dS sets'.length dc3, .slice dI items'.length dc4, .string jn', .slice dO on'.length dc5, .slice dW wh'.length dc6, .slice dG gr'.length dc7, .slice dD ord'.length dc8, .int .i64 lim'] 28 (0, 0)) ∧ Below w.heap.size w wd)
  case first =>
    clear HK HM HM2 HR HA HE
    refine region_anyT (fun w' => w'.heap[w.heap.size]? = some (.cells #[.int .i64 kind, .string tb, .slice aC cols.length ac1, .string key, .string ix, .slice aR rows.length ac2, .slice aS sets.length ac3, .slice aI items.length ac4, .string jn, .slice aO on.length ac5, .slice aW wh.length ac6, .slice aG gr.length ac7, .slice aD ord.length ac8, .int .i64 lim] 28 (0, 0)) ∧ w'.heap[w.heap.size + 1]? = some (.cells #[.int .i64 kind', .string tb', .slice dC cols'.length dc1, .string key', .string ix', .slice dR rows'.length dc2, .slice dS sets'.length dc3, .slice dI items'.length dc4, .string jn', .slice dO on'.length dc5, .slice dW wh'.length dc6, .slice dG gr'.length dc7, .slice dD ord'.length dc8, .int .i64 lim'] 28 (0, 0))) [0, 1, 2, 3, 4, 5] (by kernel_rfl) ⟨HX.out, HY.out⟩ ?_
    intro hcl hS
    have HXD := Lib.hid hS.1
    have HYD := Lib.hid hS.2
    have HBD := Lib.hid HB.out.drew
    have hzd : w.heap.size + 2 ≤ W.drew.heap.size := hz0
    clear HX HY HB hz0 hS
    generalize W.drew = W0 at *
    have hS : W0.heap[w.heap.size]? = some (.cells #[.int .i64 kind, .string tb, .slice aC cols.length ac1, .string key, .string ix, .slice aR rows.length ac2, .slice aS sets.length ac3, .slice aI items.length ac4, .string jn, .slice aO on.length ac5, .slice aW wh.length ac6, .slice aG gr.length ac7, .slice aD ord.length ac8, .int .i64 lim] 28 (0, 0)) ∧ W0.heap[w.heap.size + 1]? = some (.cells #[.int .i64 kind', .string tb', .slice dC cols'.length dc1, .string key', .string ix', .slice dR rows'.length dc2, .slice dS sets'.length dc3, .slice dI items'.length dc4, .string jn', .slice dO on'.length dc5, .slice dW wh'.length dc6, .slice dG gr'.length dc7, .slice dD ord'.length dc8, .int .i64 lim'] 28 (0, 0)) := ⟨HXD.out, HYD.out⟩
    refine anyT_take (i := 0) (v := .agg #[.int .i64 kind, .string tb, .slice aC cols.length ac1, .string key, .string ix, .slice aR rows.length ac2, .slice aS sets.length ac3, .slice aI items.length ac4, .string jn, .slice aO on.length ac5, .slice aW wh.length ac6, .slice aG gr.length ac7, .slice aD ord.length ac8, .int .i64 lim]) rfl (by kernel_rfl) (by kernel_rfl) (by kernel_rfl) (by kernel_rfl) (fun _ _ _ h => h) (Or.inl ⟨by rfl, ?hy1⟩) hS hcl ?rest1
    case hy1 => intro w' hSw; obtain ⟨x0, x1, x2, x3, x4, x5, x6, x7, x8, x9, x10, x11, x12, x13⟩ := cells14 hSw.1; go_simp
    clear hcl
    intro hcl
    try simp only [Act.put, List.setIfInBounds_toArray, List.set_cons_zero, List.set_cons_succ]
    refine anyT_take (i := 2) (v := .agg #[.int .i64 kind', .string tb', .slice dC cols'.length dc1, .string key', .string ix', .slice dR rows'.length dc2, .slice dS sets'.length dc3, .slice dI items'.length dc4, .string jn', .slice dO on'.length dc5, .slice dW wh'.length dc6, .slice dG gr'.length dc7, .slice dD ord'.length dc8, .int .i64 lim']) rfl (by kernel_rfl) (by kernel_rfl) (by kernel_rfl) (by kernel_rfl) (fun _ _ _ h => h) (Or.inl ⟨by rfl, ?hy2⟩) hS hcl ?rest2
    case hy2 => intro w' hSw; obtain ⟨x0, x1, x2, x3, x4, x5, x6, x7, x8, x9, x10, x11, x12, x13⟩ := cells14 hSw.2; go_simp
    clear hcl
    intro hcl
    try simp only [Act.put, List.setIfInBounds_toArray, List.set_cons_zero, List.set_cons_succ]
    clear hS
    refine anyT_all (rs := [1, 4, 5]) (by kernel_rfl) rfl hcl ⟨⟨_, rfl, ?_⟩, ⟨_, rfl, ?_⟩, ⟨_, rfl, ?_⟩, trivial⟩
    · intro K hK
      clear hcl
      go_simp
      go_at_call 11
      refine (HCX.out _ HBD.out).mono ?_
      rintro e W1 ⟨⟨⟨bC, bc1⟩, ⟨bR, bc2⟩, ⟨bS, bc3⟩, ⟨bI, bc4⟩, ⟨bO, bc5⟩, ⟨bW, bc6⟩, ⟨bG, bc7⟩, ⟨bD, bc8⟩⟩, rfl, hrd, hb⟩
      replace HXD := Lib.hid ((hb.block _ (heap_lt HXD.out)).trans HXD.out)
      replace HYD := Lib.hid ((hb.block _ (heap_lt HYD.out)).trans HYD.out)
      have RX := Lib.hid (RdSt.mono (S' := fun b => W0.heap.size ≤ b ∧ b < W1.heap.size) hrd fun b h1 h2 => ⟨h1, h2⟩)
      replace HBD := Lib.hid (below_call hb HBD.out HBD.out.size)
      have hz1 := hb.size
      clear hrd hb
      refine hK.out _ _ ⟨HXD.out, HYD.out⟩ (fun hS hcl => ?_)
      clear hK K hS
      try simp only [Act.put, List.setIfInBounds_toArray, List.set_cons_zero, List.set_cons_succ]
      refine anyT_all (rs := [3, 4, 5]) (by kernel_rfl) rfl hcl ⟨⟨_, rfl, ?_⟩, ⟨_, rfl, ?_⟩, ⟨_, rfl, ?_⟩, trivial⟩
      · intro K hK
        clear hcl
        go_simp
        go_at_call 11
        refine (HCY.out _ HBD.out).mono ?_
        rintro e W2 ⟨⟨⟨eC, ec1⟩, ⟨eR, ec2⟩, ⟨eS, ec3⟩, ⟨eI, ec4⟩, ⟨eO, ec5⟩, ⟨eW, ec6⟩, ⟨eG, ec7⟩, ⟨eD, ec8⟩⟩, rfl, hrd, hb⟩
        replace HXD := Lib.hid ((hb.block _ (heap_lt HXD.out)).trans HXD.out)
        replace HYD := Lib.hid ((hb.block _ (heap_lt HYD.out)).trans HYD.out)
        replace RX := Lib.hid (RX.out.below hb)
        have RY := Lib.hid (RdSt.mono (S' := fun b => W1.heap.size ≤ b ∧ b < W2.heap.size) hrd fun b h1 h2 => ⟨h1, h2⟩)
        replace HBD := Lib.hid (below_call hb HBD.out HBD.out.size)
        have hz2 := hb.size
        clear hrd hb
        refine hK.out _ _ ⟨HXD.out, HYD.out⟩ (fun hS hcl => ?_)
        clear hK K hS
        try simp only [Act.put, List.setIfInBounds_toArray, List.set_cons_zero, List.set_cons_succ]
        refine anyT_all (rs := [4, 5]) (by kernel_rfl) rfl hcl ⟨⟨_, rfl, ?_⟩, ⟨_, rfl, ?_⟩, trivial⟩
        · intro K hK
          clear hcl
          go_simp
          replace HXD := Lib.hid (heap_on HXD.out (.cells #[.int .i64 0, .string ⟨#[]⟩, .slice none 0 0, .string ⟨#[]⟩, .string ⟨#[]⟩, .slice none 0 0, .slice none 0 0, .slice none 0 0, .string ⟨#[]⟩, .slice none 0 0, .slice none 0 0, .slice none 0 0, .slice none 0 0, .int .i64 0] 28))
          replace HYD := Lib.hid (heap_on HYD.out (.cells #[.int .i64 0, .string ⟨#[]⟩, .slice none 0 0, .string ⟨#[]⟩, .string ⟨#[]⟩, .slice none 0 0, .slice none 0 0, .slice none 0 0, .string ⟨#[]⟩, .slice none 0 0, .slice none 0 0, .slice none 0 0, .slice none 0 0, .int .i64 0] 28))
          replace RX := Lib.hid (RX.out.below (below1 _ (.cells #[.int .i64 0, .string ⟨#[]⟩, .slice none 0 0, .string ⟨#[]⟩, .string ⟨#[]⟩, .slice none 0 0, .slice none 0 0, .slice none 0 0, .string ⟨#[]⟩, .slice none 0 0, .slice none 0 0, .slice none 0 0, .slice none 0 0, .int .i64 0] 28)))
          replace RY := Lib.hid (RY.out.below (below1 _ (.cells #[.int .i64 0, .string ⟨#[]⟩, .slice none 0 0, .string ⟨#[]⟩, .string ⟨#[]⟩, .slice none 0 0, .slice none 0 0, .slice none 0 0, .string ⟨#[]⟩, .slice none 0 0, .slice none 0 0, .slice none 0 0, .slice none 0 0, .int .i64 0] 28)))
          have H5 := Lib.hid (heap_alloc_new W2 (.cells #[.int .i64 0, .string ⟨#[]⟩, .slice none 0 0, .string ⟨#[]⟩, .string ⟨#[]⟩, .slice none 0 0, .slice none 0 0, .slice none 0 0, .string ⟨#[]⟩, .slice none 0 0, .slice none 0 0, .slice none 0 0, .slice none 0 0, .int .i64 0] 28))
          replace HBD := Lib.hid (HBD.out.alloc HBD.out.size (.cells #[.int .i64 0, .string ⟨#[]⟩, .slice none 0 0, .string ⟨#[]⟩, .string ⟨#[]⟩, .slice none 0 0, .slice none 0 0, .slice none 0 0, .string ⟨#[]⟩, .slice none 0 0, .slice none 0 0, .slice none 0 0, .slice none 0 0, .int .i64 0] 28))
          have hz3 : W2.heap.size < (W2.alloc (.cells #[.int .i64 0, .string ⟨#[]⟩, .slice none 0 0, .string ⟨#[]⟩, .string ⟨#[]⟩, .slice none 0 0, .slice none 0 0, .slice none 0 0, .string ⟨#[]⟩, .slice none 0 0, .slice none 0 0, .slice none 0 0, .slice none 0 0, .int .i64 0] 28)).heap.size := by simp
          generalize (W2.alloc (.cells #[.int .i64 0, .string ⟨#[]⟩, .slice none 0 0, .string ⟨#[]⟩, .string ⟨#[]⟩, .slice none 0 0, .slice none 0 0, .slice none 0 0, .string ⟨#[]⟩, .slice none 0 0, .slice none 0 0, .slice none 0 0, .slice none 0 0, .int .i64 0] 28)) = W3 at *
          refine hK.out _ _ ⟨HXD.out, HYD.out⟩ (fun hS hcl => ?_)
          clear hK K hS
          try simp only [Act.put, List.setIfInBounds_toArray, List.set_cons_zero, List.set_cons_succ]
          refine anyT_all (rs := [5]) (by kernel_rfl) rfl hcl ⟨⟨_, rfl, ?_⟩, trivial⟩
          · intro K hK
            clear hcl
            go_simp
            replace HXD := Lib.hid (heap_on HXD.out (.cells #[.int .i64 0, .string ⟨#[]⟩, .slice none 0 0, .string ⟨#[]⟩, .string ⟨#[]⟩, .slice none 0 0, .slice none 0 0, .slice none 0 0, .string ⟨#[]⟩, .slice none 0 0, .slice none 0 0, .slice none 0 0, .slice none 0 0, .int .i64 0] 28))
            replace HYD := Lib.hid (heap_on HYD.out (.cells #[.int .i64 0, .string ⟨#[]⟩, .slice none 0 0, .string ⟨#[]⟩, .string ⟨#[]⟩, .slice none 0 0, .slice none 0 0, .slice none 0 0, .string ⟨#[]⟩, .slice none 0 0, .slice none 0 0, .slice none 0 0, .slice none 0 0, .int .i64 0] 28))
            replace H5 := Lib.hid (heap_on H5.out (.cells #[.int .i64 0, .string ⟨#[]⟩, .slice none 0 0, .string ⟨#[]⟩, .string ⟨#[]⟩, .slice none 0 0, .slice none 0 0, .slice none 0 0, .string ⟨#[]⟩, .slice none 0 0, .slice none 0 0, .slice none 0 0, .slice none 0 0, .int .i64 0] 28))
            replace RX := Lib.hid (RX.out.below (below1 _ (.cells #[.int .i64 0, .string ⟨#[]⟩, .slice none 0 0, .string ⟨#[]⟩, .string ⟨#[]⟩, .slice none 0 0, .slice none 0 0, .slice none 0 0, .string ⟨#[]⟩, .slice none 0 0, .slice none 0 0, .slice none 0 0, .slice none 0 0, .int .i64 0] 28)))
            replace RY := Lib.hid (RY.out.below (below1 _ (.cells #[.int .i64 0, .string ⟨#[]⟩, .slice none 0 0, .string ⟨#[]⟩, .string ⟨#[]⟩, .slice none 0 0, .slice none 0 0, .slice none 0 0, .string ⟨#[]⟩, .slice none 0 0, .slice none 0 0, .slice none 0 0, .slice none 0 0, .int .i64 0] 28)))
            have H6 := Lib.hid (heap_alloc_new W3 (.cells #[.int .i64 0, .string ⟨#[]⟩, .slice none 0 0, .string ⟨#[]⟩, .string ⟨#[]⟩, .slice none 0 0, .slice none 0 0, .slice none 0 0, .string ⟨#[]⟩, .slice none 0 0, .slice none 0 0, .slice none 0 0, .slice none 0 0, .int .i64 0] 28))
            replace HBD := Lib.hid (HBD.out.alloc HBD.out.size (.cells #[.int .i64 0, .string ⟨#[]⟩, .slice none 0 0, .string ⟨#[]⟩, .string ⟨#[]⟩, .slice none 0 0, .slice none 0 0, .slice none 0 0, .string ⟨#[]⟩, .slice none 0 0, .slice none 0 0, .slice none 0 0, .slice none 0 0, .int .i64 0] 28))
            have hz4 : W3.heap.size < (W3.alloc (.cells #[.int .i64 0, .string ⟨#[]⟩, .slice none 0 0, .string ⟨#[]⟩, .string ⟨#[]⟩, .slice none 0 0, .slice none 0 0, .slice none 0 0, .string ⟨#[]⟩, .slice none 0 0, .slice none 0 0, .slice none 0 0, .slice none 0 0, .int .i64 0] 28)).heap.size := by simp
            generalize (W3.alloc (.cells #[.int .i64 0, .string ⟨#[]⟩, .slice none 0 0, .string ⟨#[]⟩, .string ⟨#[]⟩, .slice none 0 0, .slice none 0 0, .slice none 0 0, .string ⟨#[]⟩, .slice none 0 0, .slice none 0 0, .slice none 0 0, .slice none 0 0, .int .i64 0] 28)) = W4 at *
            refine hK.out _ _ ⟨HXD.out, HYD.out⟩ (fun hS hcl => ?_)
            clear hK K hS
            try simp only [Act.put, List.setIfInBounds_toArray, List.set_cons_zero, List.set_cons_succ]
            have hne : W2.heap.size ≠ W3.heap.size := by omega
            replace RX := Lib.hid (RX.out.mono (S' := fun b => b ≠ W2.heap.size ∧ b ≠ W3.heap.size) fun b h1 _ => by omega)
            replace RY := Lib.hid (RY.out.mono (S' := fun b => b ≠ W2.heap.size ∧ b ≠ W3.heap.size) fun b h1 _ => by omega)
            refine anyT_last (k := 6) rfl (by kernel_rfl) (by kernel_rfl) hcl ?_
            intro K hK
            clear hcl
            rw [if_pos (by rfl)]
            refine wp_store14 _ _ rfl W2.heap.size rfl rfl H5.out ⟨rfl, rfl, rfl, rfl, rfl, rfl, rfl, rfl, rfl, rfl, rfl, rfl, rfl, rfl⟩ ?_
            intro V6 e1 e4 e3
            replace HXD := Lib.hid ((e4 w.heap.size (by omega)).trans HXD.out)
            replace HYD := Lib.hid ((e4 (w.heap.size + 1) (by omega)).trans HYD.out)
            replace H6 := Lib.hid ((e4 W3.heap.size (by omega)).trans H6.out)
            replace H5 := Lib.hid e1
            replace RX := Lib.hid (RX.out.out fun c hc => e4 c (by omega))
            replace RY := Lib.hid (RY.out.out fun c hc => e4 c (by omega))
            replace HBD := Lib.hid (HBD.out.trans (e3.mono (by omega)))
            clear e1 e3 e4
            refine hK.out _ _ (fun hcl => ?_)
            clear hK K
            try simp only [Act.put, List.setIfInBounds_toArray, List.set_cons_zero, List.set_cons_succ]
            refine anyT_last (k := 7) rfl (by kernel_rfl) (by kernel_rfl) hcl ?_
            intro K hK
            clear hcl
            rw [if_pos (by rfl)]
            refine wp_store14 _ _ rfl W3.heap.size rfl rfl H6.out ⟨rfl, rfl, rfl, rfl, rfl, rfl, rfl, rfl, rfl, rfl, rfl, rfl, rfl, rfl⟩ ?_
            intro V7 e1 e4 e3
            replace HXD := Lib.hid ((e4 w.heap.size (by omega)).trans HXD.out)
            replace HYD := Lib.hid ((e4 (w.heap.size + 1) (by omega)).trans HYD.out)
            replace H5 := Lib.hid ((e4 W2.heap.size (by omega)).trans H5.out)
            replace H6 := Lib.hid e1
            replace RX := Lib.hid (RX.out.out fun c hc => e4 c (by omega))
            replace RY := Lib.hid (RY.out.out fun c hc => e4 c (by omega))
            replace HBD := Lib.hid (HBD.out.trans (e3.mono (by omega)))
            clear e1 e3 e4
            refine hK.out _ _ (fun hcl => ?_)
            clear hK K
            try simp only [Act.put, List.setIfInBounds_toArray, List.set_cons_zero, List.set_cons_succ]
            refine anyT_done (by kernel_rfl) ?_ _
            go_wp2_with fail
            go_meet
            exact ⟨⟨⟨bC, bc1⟩, ⟨bR, bc2⟩, ⟨bS, bc3⟩, ⟨bI, bc4⟩, ⟨bO, bc5⟩, ⟨bW, bc6⟩, ⟨bG, bc7⟩, ⟨bD, bc8⟩⟩, ⟨⟨eC, ec1⟩, ⟨eR, ec2⟩, ⟨eS, ec3⟩, ⟨eI, ec4⟩, ⟨eO, ec5⟩, ⟨eW, ec6⟩, ⟨eG, ec7⟩, ⟨eD, ec8⟩⟩, W2.heap.size, W3.heap.size, rfl, rfl, H5.out, H6.out, RX.out.any, RY.out.any, HXD.out, HYD.out, HBD.out⟩
        · intro K hK
          clear hcl
          go_simp
          replace HXD := Lib.hid (heap_on HXD.out (.cells #[.int .i64 0, .string ⟨#[]⟩, .slice none 0 0, .string ⟨#[]⟩, .string ⟨#[]⟩, .slice none 0 0, .slice none 0 0, .slice none 0 0, .string ⟨#[]⟩, .slice none 0 0, .slice none 0 0, .slice none 0 0, .slice none 0 0, .int .i64 0] 28))
          replace HYD := Lib.hid (heap_on HYD.out (.cells #[.int .i64 0, .string ⟨#[]⟩, .slice none 0 0, .string ⟨#[]⟩, .string ⟨#[]⟩, .slice none 0 0, .slice none 0 0, .slice none 0 0, .string ⟨#[]⟩, .slice none 0 0, .slice none 0 0, .slice none 0 0, .slice none 0 0, .int .i64 0] 28))
          replace RX := Lib.hid (RX.out.below (below1 _ (.cells #[.int .i64 0, .string ⟨#[]⟩, .slice none 0 0, .string ⟨#[]⟩, .string ⟨#[]⟩, .slice none 0 0, .slice none 0 0, .slice none 0 0, .string ⟨#[]⟩, .slice none 0 0, .slice none 0 0, .slice none 0 0, .slice none 0 0, .int .i64 0] 28)))
          replace RY := Lib.hid (RY.out.below (below1 _ (.cells #[.int .i64 0, .string ⟨#[]⟩, .slice none 0 0, .string ⟨#[]⟩, .string ⟨#[]⟩, .slice none 0 0, .slice none 0 0, .slice none 0 0, .string ⟨#[]⟩, .slice none 0 0, .slice none 0 0, .slice none 0 0, .slice none 0 0, .int .i64 0] 28)))
          have H6 := Lib.hid (heap_alloc_new W2 (.cells #[.int .i64 0, .string ⟨#[]⟩, .slice none 0 0, .string ⟨#[]⟩, .string ⟨#[]⟩, .slice none 0 0, .slice none 0 0, .slice none 0 0, .string ⟨#[]⟩, .slice none 0 0, .slice none 0 0, .slice none 0 0, .slice none 0 0, .int .i64 0] 28))
          replace HBD := Lib.hid (HBD.out.alloc HBD.out.size (.cells #[.int .i64 0, .string ⟨#[]⟩, .slice none 0 0, .string ⟨#[]⟩, .string ⟨#[]⟩, .slice none 0 0, .slice none 0 0, .slice none 0 0, .string ⟨#[]⟩, .slice none 0 0, .slice none 0 0, .slice none 0 0, .slice none 0 0, .int .i64 0] 28))
          have hz3 : W2.heap.size < (W2.alloc (.cells #[.int .i64 0, .string ⟨#[]⟩, .slice none 0 0, .string ⟨#[]⟩, .string ⟨#[]⟩, .slice none 0 0, .slice none 0 0, .slice none 0 0, .string ⟨#[]⟩, .slice none 0 0, .slice none 0 0, .slice none 0 0, .slice none 0 0, .int .i64 0] 28)).heap.size := by simp
          generalize (W2.alloc (.cells #[.int .i64 0, .string ⟨#[]⟩, .slice none 0 0, .string ⟨#[]⟩, .string ⟨#[]⟩, .slice none 0 0, .slice none 0 0, .slice none 0 0, .string ⟨#[]⟩, .slice none 0 0, .slice none 0 0, .slice none 0 0, .slice none 0 0, .int .i64 0] 28)) = W3 at *
          refine hK.out _ _ ⟨HXD.out, HYD.out⟩ (fun hS hcl => ?_)
          clear hK K hS
          try simp only [Act.put, List.setIfInBounds_toArray, List.set_cons_zero, List.set_cons_succ]
          refine anyT_all (rs := [4]) (by kernel_rfl) rfl hcl ⟨⟨_, rfl, ?_⟩, trivial⟩
          · intro K hK
            clear hcl
            go_simp
            replace HXD := Lib.hid (heap_on HXD.out (.cells #[.int .i64 0, .string ⟨#[]⟩, .slice none 0 0, .string ⟨#[]⟩, .string ⟨#[]⟩, .slice none 0 0, .slice none 0 0, .slice none 0 0, .string ⟨#[]⟩, .slice none 0 0, .slice none 0 0, .slice none 0 0, .slice none 0 0, .int .i64 0] 28))
            replace HYD := Lib.hid (heap_on HYD.out (.cells #[.int .i64 0, .string ⟨#[]⟩, .slice none 0 0, .string ⟨#[]⟩, .string ⟨#[]⟩, .slice none 0 0, .slice none 0 0, .slice none 0 0, .string ⟨#[]⟩, .slice none 0 0, .slice none 0 0, .slice none 0 0, .slice none 0 0, .int .i64 0] 28))
            replace H6 := Lib.hid (heap_on H6.out (.cells #[.int .i64 0, .string ⟨#[]⟩, .slice none 0 0, .string ⟨#[]⟩, .string ⟨#[]⟩, .slice none 0 0, .slice none 0 0, .slice none 0 0, .string ⟨#[]⟩, .slice none 0 0, .slice none 0 0, .slice none 0 0, .slice none 0 0, .int .i64 0] 28))
            replace RX := Lib.hid (RX.out.below (below1 _ (.cells #[.int .i64 0, .string ⟨#[]⟩, .slice none 0 0, .string ⟨#[]⟩, .string ⟨#[]⟩, .slice none 0 0, .slice none 0 0, .slice none 0 0, .string ⟨#[]⟩, .slice none 0 0, .slice none 0 0, .slice none 0 0, .slice none 0 0, .int .i64 0] 28)))
            replace RY := Lib.hid (RY.out.below (below1 _ (.cells #[.int .i64 0, .string ⟨#[]⟩, .slice none 0 0, .string ⟨#[]⟩, .string ⟨#[]⟩, .slice none 0 0, .slice none 0 0, .slice none 0 0, .string ⟨#[]⟩, .slice none 0 0, .slice none 0 0, .slice none 0 0, .slice none 0 0, .int .i64 0] 28)))
            have H5 := Lib.hid (heap_alloc_new W3 (.cells #[.int .i64 0, .string ⟨#[]⟩, .slice none 0 0, .string ⟨#[]⟩, .string ⟨#[]⟩, .slice none 0 0, .slice none 0 0, .slice none 0 0, .string ⟨#[]⟩, .slice none 0 0, .slice none 0 0, .slice none 0 0, .slice none 0 0, .int .i64 0] 28))
            replace HBD := Lib.hid (HBD.out.alloc HBD.out.size (.cells #[.int .i64 0, .string ⟨#[]⟩, .slice none 0 0, .string ⟨#[]⟩, .string ⟨#[]⟩, .slice none 0 0, .slice none 0 0, .slice none 0 0, .string ⟨#[]⟩, .slice none 0 0, .slice none 0 0, .slice none 0 0, .slice none 0 0, .int .i64 0] 28))
            have hz4 : W3.heap.size < (W3.alloc (.cells #[.int .i64 0, .string ⟨#[]⟩, .slice none 0 0, .string ⟨#[]⟩, .string ⟨#[]⟩, .slice none 0 0, .slice none 0 0, .slice none 0 0, .string ⟨#[]⟩, .slice none 0 0, .slice none 0 0, .slice none 0 0, .slice none 0 0, .int .i64 0] 28)).heap.size := by simp
            generalize (W3.alloc (.cells #[.int .i64 0, .string ⟨#[]⟩, .slice none 0 0, .string ⟨#[]⟩, .string ⟨#[]⟩, .slice none 0 0, .slice none 0 0, .slice none 0 0, .string ⟨#[]⟩, .slice none 0 0, .slice none 0 0, .slice none 0 0, .slice none 0 0, .int .i64 0] 28)) = W4 at *
            refine hK.out _ _ ⟨HXD.out, HYD.out⟩ (fun hS hcl => ?_)
            clear hK K hS
            try simp only [Act.put, List.setIfInBounds_toArray, List.set_cons_zero, List.set_cons_succ]
            have hne : W3.heap.size ≠ W2.heap.size := by omega
            replace RX := Lib.hid (RX.out.mono (S' := fun b => b ≠ W3.heap.size ∧ b ≠ W2.heap.size) fun b h1 _ => by omega)
            replace RY := Lib.hid (RY.out.mono (S' := fun b => b ≠ W3.heap.size ∧ b ≠ W2.heap.size) fun b h1 _ => by omega)
            refine anyT_last (k := 6) rfl (by kernel_rfl) (by kernel_rfl) hcl ?_
            intro K hK
            clear hcl
            rw [if_pos (by rfl)]
            refine wp_store14 _ _ rfl W3.heap.size rfl rfl H5.out ⟨rfl, rfl, rfl, rfl, rfl, rfl, rfl, rfl, rfl, rfl, rfl, rfl, rfl, rfl⟩ ?_
            intro V6 e1 e4 e3
            replace HXD := Lib.hid ((e4 w.heap.size (by omega)).trans HXD.out)
            replace HYD := Lib.hid ((e4 (w.heap.size + 1) (by omega)).trans HYD.out)
            replace H6 := Lib.hid ((e4 W2.heap.size (by omega)).trans H6.out)
            replace H5 := Lib.hid e1
            replace RX := Lib.hid (RX.out.out fun c hc => e4 c (by omega))
            replace RY := Lib.hid (RY.out.out fun c hc => e4 c (by omega))
            replace HBD := Lib.hid (HBD.out.trans (e3.mono (by omega)))
            clear e1 e3 e4
            refine hK.out _ _ (fun hcl => ?_)
            clear hK K
            try simp only [Act.put, List.setIfInBounds_toArray, List.set_cons_zero, List.set_cons_succ]
            refine anyT_last (k := 7) rfl (by kernel_rfl) (by kernel_rfl) hcl ?_
            intro K hK
            clear hcl
            rw [if_pos (by rfl)]
            refine wp_store14 _ _ rfl W2.heap.size rfl rfl H6.out ⟨rfl, rfl, rfl, rfl, rfl, rfl, rfl, rfl, rfl, rfl, rfl, rfl, rfl, rfl⟩ ?_
            intro V7 e1 e4 e3
            replace HXD := Lib.hid ((e4 w.heap.size (by omega)).trans HXD.out)
            replace HYD := Lib.hid ((e4 (w.heap.size + 1) (by omega)).trans HYD.out)
            replace H5 := Lib.hid ((e4 W3.heap.size (by omega)).trans H5.out)
            replace H6 := Lib.hid e1
            replace RX := Lib.hid (RX.out.out fun c hc => e4 c (by omega))
            replace RY := Lib.hid (RY.out.out fun c hc => e4 c (by omega))
            replace HBD := Lib.hid (HBD.out.trans (e3.mono (by omega)))
            clear e1 e3 e4
            refine hK.out _ _ (fun hcl => ?_)
            clear hK K
            try simp only [Act.put, List.setIfInBounds_toArray, List.set_cons_zero, List.set_cons_succ]
            refine anyT_done (by kernel_rfl) ?_ _
            go_wp2_with fail
            go_meet
            exact ⟨⟨⟨bC, bc1⟩, ⟨bR, bc2⟩, ⟨bS, bc3⟩, ⟨bI, bc4⟩, ⟨bO, bc5⟩, ⟨bW, bc6⟩, ⟨bG, bc7⟩, ⟨bD, bc8⟩⟩, ⟨⟨eC, ec1⟩, ⟨eR, ec2⟩, ⟨eS, ec3⟩, ⟨eI, ec4⟩, ⟨eO, ec5⟩, ⟨eW, ec6⟩, ⟨eG, ec7⟩, ⟨eD, ec8⟩⟩, W3.heap.size, W2.heap.size, rfl, rfl, H5.out, H6.out, RX.out.any, RY.out.any, HXD.out, HYD.out, HBD.out⟩
      · intro K hK
        clear hcl
        go_simp
        replace HXD := Lib.hid (heap_on HXD.out (.cells #[.int .i64 0, .string ⟨#[]⟩, .slice none 0 0, .string ⟨#[]⟩, .string ⟨#[]⟩, .slice none 0 0, .slice none 0 0, .slice none 0 0, .string ⟨#[]⟩, .slice none 0 0, .slice none 0 0, .slice none 0 0, .slice none 0 0, .int .i64 0] 28))
        replace HYD := Lib.hid (heap_on HYD.out (.cells #[.int .i64 0, .string ⟨#[]⟩, .slice none 0 0, .string ⟨#[]⟩, .string ⟨#[]⟩, .slice none 0 0, .slice none 0 0, .slice none 0 0, .string ⟨#[]⟩, .slice none 0 0, .slice none 0 0, .slice none 0 0, .slice none 0 0, .int .i64 0] 28))
        replace RX := Lib.hid (RX.out.below (below1 _ (.cells #[.int .i64 0, .string ⟨#[]⟩, .slice none 0 0, .string ⟨#[]⟩, .string ⟨#[]⟩, .slice none 0 0, .slice none 0 0, .slice none 0 0, .string ⟨#[]⟩, .slice none 0 0, .slice none 0 0, .slice none 0 0, .slice none 0 0, .int .i64 0] 28)))
        have H5 := Lib.hid (heap_alloc_new W1 (.cells #[.int .i64 0, .string ⟨#[]⟩, .slice none 0 0, .string ⟨#[]⟩, .string ⟨#[]⟩, .slice none 0 0, .slice none 0 0, .slice none 0 0, .string ⟨#[]⟩, .slice none 0 0, .slice none 0 0, .slice none 0 0, .slice none 0 0, .int .i64 0] 28))
        replace HBD := Lib.hid (HBD.out.alloc HBD.out.size (.cells #[.int .i64 0, .string ⟨#[]⟩, .slice none 0 0, .string ⟨#[]⟩, .string ⟨#[]⟩, .slice none 0 0, .slice none 0 0, .slice none 0 0, .string ⟨#[]⟩, .slice none 0 0, .slice none 0 0, .slice none 0 0, .slice none 0 0, .int .i64 0] 28))
        have hz2 : W1.heap.size < (W1.alloc (.cells #[.int .i64 0, .string ⟨#[]⟩, .slice none 0 0, .string ⟨#[]⟩, .string ⟨#[]⟩, .slice none 0 0, .slice none 0 0, .slice none 0 0, .string ⟨#[]⟩, .slice none 0 0, .slice none 0 0, .slice none 0 0, .slice none 0 0, .int .i64 0] 28)).heap.size := by simp
        generalize (W1.alloc (.cells #[.int .i64 0, .string ⟨#[]⟩, .slice none 0 0, .string ⟨#[]⟩, .string ⟨#[]⟩, .slice none 0 0, .slice none 0 0, .slice none 0 0, .string ⟨#[]⟩, .slice none 0 0, .slice none 0 0, .slice none 0 0, .slice none 0 0, .int .i64 0] 28)) = W2 at *
        refine hK.out _ _ ⟨HXD.out, HYD.out⟩ (fun hS hcl => ?_)
        clear hK K hS
        try simp only [Act.put, List.setIfInBounds_toArray, List.set_cons_zero, List.set_cons_succ]
        refine anyT_all (rs := [3, 5]) (by kernel_rfl) rfl hcl ⟨⟨_, rfl, ?_⟩, ⟨_, rfl, ?_⟩, trivial⟩
        · intro K hK
          clear hcl
          go_simp
          go_at_call 11
          refine (HCY.out _ HBD.out).mono ?_
          rintro e W3 ⟨⟨⟨eC, ec1⟩, ⟨eR, ec2⟩, ⟨eS, ec3⟩, ⟨eI, ec4⟩, ⟨eO, ec5⟩, ⟨eW, ec6⟩, ⟨eG, ec7⟩, ⟨eD, ec8⟩⟩, rfl, hrd, hb⟩
          replace HXD := Lib.hid ((hb.block _ (heap_lt HXD.out)).trans HXD.out)
          replace HYD := Lib.hid ((hb.block _ (heap_lt HYD.out)).trans HYD.out)
          replace H5 := Lib.hid ((hb.block _ (heap_lt H5.out)).trans H5.out)
          replace RX := Lib.hid (RX.out.below hb)
          have RY := Lib.hid (RdSt.mono (S' := fun b => W2.heap.size ≤ b ∧ b < W3.heap.size) hrd fun b h1 h2 => ⟨h1, h2⟩)
          replace HBD := Lib.hid (below_call hb HBD.out HBD.out.size)
          have hz3 := hb.size
          clear hrd hb
          refine hK.out _ _ ⟨HXD.out, HYD.out⟩ (fun hS hcl => ?_)
          clear hK K hS
          try simp only [Act.put, List.setIfInBounds_toArray, List.set_cons_zero, List.set_cons_succ]
          refine anyT_all (rs := [5]) (by kernel_rfl) rfl hcl ⟨⟨_, rfl, ?_⟩, trivial⟩
          · intro K hK
            clear hcl
            go_simp
            replace HXD := Lib.hid (heap_on HXD.out (.cells #[.int .i64 0, .string ⟨#[]⟩, .slice none 0 0, .string ⟨#[]⟩, .string ⟨#[]⟩, .slice none 0 0, .slice none 0 0, .slice none 0 0, .string ⟨#[]⟩, .slice none 0 0, .slice none 0 0, .slice none 0 0, .slice none 0 0, .int .i64 0] 28))
            replace HYD := Lib.hid (heap_on HYD.out (.cells #[.int .i64 0, .string ⟨#[]⟩, .slice none 0 0, .string ⟨#[]⟩, .string ⟨#[]⟩, .slice none 0 0, .slice none 0 0, .slice none 0 0, .string ⟨#[]⟩, .slice none 0 0, .slice none 0 0, .slice none 0 0, .slice none 0 0, .int .i64 0] 28))
            replace H5 := Lib.hid (heap_on H5.out (.cells #[.int .i64 0, .string ⟨#[]⟩, .slice none 0 0, .string ⟨#[]⟩, .string ⟨#[]⟩, .slice none 0 0, .slice none 0 0, .slice none 0 0, .string ⟨#[]⟩, .slice none 0 0, .slice none 0 0, .slice none 0 0, .slice none 0 0, .int .i64 0] 28))
            replace RX := Lib.hid (RX.out.below (below1 _ (.cells #[.int .i64 0, .string ⟨#[]⟩, .slice none 0 0, .string ⟨#[]⟩, .string ⟨#[]⟩, .slice none 0 0, .slice none 0 0, .slice none 0 0, .string ⟨#[]⟩, .slice none 0 0, .slice none 0 0, .slice none 0 0, .slice none 0 0, .int .i64 0] 28)))
            replace RY := Lib.hid (RY.out.below (below1 _ (.cells #[.int .i64 0, .string ⟨#[]⟩, .slice none 0 0, .string ⟨#[]⟩, .string ⟨#[]⟩, .slice none 0 0, .slice none 0 0, .slice none 0 0, .string ⟨#[]⟩, .slice none 0 0, .slice none 0 0, .slice none 0 0, .slice none 0 0, .int .i64 0] 28)))
            have H6 := Lib.hid (heap_alloc_new W3 (.cells #[.int .i64 0, .string ⟨#[]⟩, .slice none 0 0, .string ⟨#[]⟩, .string ⟨#[]⟩, .slice none 0 0, .slice none 0 0, .slice none 0 0, .string ⟨#[]⟩, .slice none 0 0, .slice none 0 0, .slice none 0 0, .slice none 0 0, .int .i64 0] 28))
            replace HBD := Lib.hid (HBD.out.alloc HBD.out.size (.cells #[.int .i64 0, .string ⟨#[]⟩, .slice none 0 0, .string ⟨#[]⟩, .string ⟨#[]⟩, .slice none 0 0, .slice none 0 0, .slice none 0 0, .string ⟨#[]⟩, .slice none 0 0, .slice none 0 0, .slice none 0 0, .slice none 0 0, .int .i64 0] 28))
            have hz4 : W3.heap.size < (W3.alloc (.cells #[.int .i64 0, .string ⟨#[]⟩, .slice none 0 0, .string ⟨#[]⟩, .string ⟨#[]⟩, .slice none 0 0, .slice none 0 0, .slice none 0 0, .string ⟨#[]⟩, .slice none 0 0, .slice none 0 0, .slice none 0 0, .slice none 0 0, .int .i64 0] 28)).heap.size := by simp
            generalize (W3.alloc (.cells #[.int .i64 0, .string ⟨#[]⟩, .slice none 0 0, .string ⟨#[]⟩, .string ⟨#[]⟩, .slice none 0 0, .slice none 0 0, .slice none 0 0, .string ⟨#[]⟩, .slice none 0 0, .slice none 0 0, .slice none 0 0, .slice none 0 0, .int .i64 0] 28)) = W4 at *
            refine hK.out _ _ ⟨HXD.out, HYD.out⟩ (fun hS hcl => ?_)
            clear hK K hS
            try simp only [Act.put, List.setIfInBounds_toArray, List.set_cons_zero, List.set_cons_succ]
            have hne : W1.heap.size ≠ W3.heap.size := by omega
            replace RX := Lib.hid (RX.out.mono (S' := fun b => b ≠ W1.heap.size ∧ b ≠ W3.heap.size) fun b h1 _ => by omega)
            replace RY := Lib.hid (RY.out.mono (S' := fun b => b ≠ W1.heap.size ∧ b ≠ W3.heap.size) fun b h1 _ => by omega)
            refine anyT_last (k := 6) rfl (by kernel_rfl) (by kernel_rfl) hcl ?_
            intro K hK
            clear hcl
            rw [if_pos (by rfl)]
            refine wp_store14 _ _ rfl W1.heap.size rfl rfl H5.out ⟨rfl, rfl, rfl, rfl, rfl, rfl, rfl, rfl, rfl, rfl, rfl, rfl, rfl, rfl⟩ ?_
            intro V6 e1 e4 e3
            replace HXD := Lib.hid ((e4 w.heap.size (by omega)).trans HXD.out)
            replace HYD := Lib.hid ((e4 (w.heap.size + 1) (by omega)).trans HYD.out)
            replace H6 := Lib.hid ((e4 W3.heap.size (by omega)).trans H6.out)
            replace H5 := Lib.hid e1
            replace RX := Lib.hid (RX.out.out fun c hc => e4 c (by omega))
            replace RY := Lib.hid (RY.out.out fun c hc => e4 c (by omega))
            replace HBD := Lib.hid (HBD.out.trans (e3.mono (by omega)))
            clear e1 e3 e4
            refine hK.out _ _ (fun hcl => ?_)
            clear hK K
            try simp only [Act.put, List.setIfInBounds_toArray, List.set_cons_zero, List.set_cons_succ]
            refine anyT_last (k := 7) rfl (by kernel_rfl) (by kernel_rfl) hcl ?_
            intro K hK
            clear hcl
            rw [if_pos (by rfl)]
            refine wp_store14 _ _ rfl W3.heap.size rfl rfl H6.out ⟨rfl, rfl, rfl, rfl, rfl, rfl, rfl, rfl, rfl, rfl, rfl, rfl, rfl, rfl⟩ ?_
            intro V7 e1 e4 e3
            replace HXD := Lib.hid ((e4 w.heap.size (by omega)).trans HXD.out)
            replace HYD := Lib.hid ((e4 (w.heap.size + 1) (by omega)).trans HYD.out)
            replace H5 := Lib.hid ((e4 W1.heap.size (by omega)).trans H5.out)
            replace H6 := Lib.hid e1
            replace RX := Lib.hid (RX.out.out fun c hc => e4 c (by omega))
            replace RY := Lib.hid (RY.out.out fun c hc => e4 c (by omega))
            replace HBD := Lib.hid (HBD.out.trans (e3.mono (by omega)))
            clear e1 e3 e4
            refine hK.out _ _ (fun hcl => ?_)
            clear hK K
            try simp only [Act.put, List.setIfInBounds_toArray, List.set_cons_zero, List.set_cons_succ]
            refine anyT_done (by kernel_rfl) ?_ _
            go_wp2_with fail
            go_meet
            exact ⟨⟨⟨bC, bc1⟩, ⟨bR, bc2⟩, ⟨bS, bc3⟩, ⟨bI, bc4⟩, ⟨bO, bc5⟩, ⟨bW, bc6⟩, ⟨bG, bc7⟩, ⟨bD, bc8⟩⟩, ⟨⟨eC, ec1⟩, ⟨eR, ec2⟩, ⟨eS, ec3⟩, ⟨eI, ec4⟩, ⟨eO, ec5⟩, ⟨eW, ec6⟩, ⟨eG, ec7⟩, ⟨eD, ec8⟩⟩, W1.heap.size, W3.heap.size, rfl, rfl, H5.out, H6.out, RX.out.any, RY.out.any, HXD.out, HYD.out, HBD.out⟩
        · intro K hK
          clear hcl
          go_simp
          replace HXD := Lib.hid (heap_on HXD.out (.cells #[.int .i64 0, .string ⟨#[]⟩, .slice none 0 0, .string ⟨#[]⟩, .string ⟨#[]⟩, .slice none 0 0, .slice none 0 0, .slice none 0 0, .string ⟨#[]⟩, .slice none 0 0, .slice none 0 0, .slice none 0 0, .slice none 0 0, .int .i64 0] 28))
          replace HYD := Lib.hid (heap_on HYD.out (.cells #[.int .i64 0, .string ⟨#[]⟩, .slice none 0 0, .string ⟨#[]⟩, .string ⟨#[]⟩, .slice none 0 0, .slice none 0 0, .slice none 0 0, .string ⟨#[]⟩, .slice none 0 0, .slice none 0 0, .slice none 0 0, .slice none 0 0, .int .i64 0] 28))
          replace H5 := Lib.hid (heap_on H5.out (.cells #[.int .i64 0, .string ⟨#[]⟩, .slice none 0 0, .string ⟨#[]⟩, .string ⟨#[]⟩, .slice none 0 0, .slice none 0 0, .slice none 0 0, .string ⟨#[]⟩, .slice none 0 0, .slice none 0 0, .slice none 0 0, .slice none 0 0, .int .i64 0] 28))
          replace RX := Lib.hid (RX.out.below (below1 _ (.cells #[.int .i64 0, .string ⟨#[]⟩, .slice none 0 0, .string ⟨#[]⟩, .string ⟨#[]⟩, .slice none 0 0, .slice none 0 0, .slice none 0 0, .string ⟨#[]⟩, .slice none 0 0, .slice none 0 0, .slice none 0 0, .slice none 0 0, .int .i64 0] 28)))
          have H6 := Lib.hid (heap_alloc_new W2 (.cells #[.int .i64 0, .string ⟨#[]⟩, .slice none 0 0, .string ⟨#[]⟩, .string ⟨#[]⟩, .slice none 0 0, .slice none 0 0, .slice none 0 0, .string ⟨#[]⟩, .slice none 0 0, .slice none 0 0, .slice none 0 0, .slice none 0 0, .int .i64 0] 28))
          replace HBD := Lib.hid (HBD.out.alloc HBD.out.size (.cells #[.int .i64 0, .string ⟨#[]⟩, .slice none 0 0, .string ⟨#[]⟩, .string ⟨#[]⟩, .slice none 0 0, .slice none 0 0, .slice none 0 0, .string ⟨#[]⟩, .slice none 0 0, .slice none 0 0, .slice none 0 0, .slice none 0 0, .int .i64 0] 28))
          have hz3 : W2.heap.size < (W2.alloc (.cells #[.int .i64 0, .string ⟨#[]⟩, .slice none 0 0, .string ⟨#[]⟩, .string ⟨#[]⟩, .slice none 0 0, .slice none 0 0, .slice none 0 0, .string ⟨#[]⟩, .slice none 0 0, .slice none 0 0, .slice none 0 0, .slice none 0 0, .int .i64 0] 28)).heap.size := by simp
          generalize (W2.alloc (.cells #[.int .i64 0, .string ⟨#[]⟩, .slice none 0 0, .string ⟨#[]⟩, .string ⟨#[]⟩, .slice none 0 0, .slice none 0 0, .slice none 0 0, .string ⟨#[]⟩, .slice none 0 0, .slice none 0 0, .slice none 0 0, .slice none 0 0, .int .i64 0] 28)) = W3 at *
          refine hK.out _ _ ⟨HXD.out, HYD.out⟩ (fun hS hcl => ?_)
          clear hK K hS
          try simp only [Act.put, List.setIfInBounds_toArray, List.set_cons_zero, List.set_cons_succ]
          refine anyT_all (rs := [3]) (by kernel_rfl) rfl hcl ⟨⟨_, rfl, ?_⟩, trivial⟩
          · intro K hK
            clear hcl
            go_simp
            go_at_call 11
            refine (HCY.out _ HBD.out).mono ?_
            rintro e W4 ⟨⟨⟨eC, ec1⟩, ⟨eR, ec2⟩, ⟨eS, ec3⟩, ⟨eI, ec4⟩, ⟨eO, ec5⟩, ⟨eW, ec6⟩, ⟨eG, ec7⟩, ⟨eD, ec8⟩⟩, rfl, hrd, hb⟩
            replace HXD := Lib.hid ((hb.block _ (heap_lt HXD.out)).trans HXD.out)
            replace HYD := Lib.hid ((hb.block _ (heap_lt HYD.out)).trans HYD.out)
            replace H5 := Lib.hid ((hb.block _ (heap_lt H5.out)).trans H5.out)
            replace H6 := Lib.hid ((hb.block _ (heap_lt H6.out)).trans H6.out)
            replace RX := Lib.hid (RX.out.below hb)
            have RY := Lib.hid (RdSt.mono (S' := fun b => W3.heap.size ≤ b ∧ b < W4.heap.size) hrd fun b h1 h2 => ⟨h1, h2⟩)
            replace HBD := Lib.hid (below_call hb HBD.out HBD.out.size)
            have hz4 := hb.size
            clear hrd hb
            refine hK.out _ _ ⟨HXD.out, HYD.out⟩ (fun hS hcl => ?_)
            clear hK K hS
            try simp only [Act.put, List.setIfInBounds_toArray, List.set_cons_zero, List.set_cons_succ]
            have hne : W1.heap.size ≠ W2.heap.size := by omega
            replace RX := Lib.hid (RX.out.mono (S' := fun b => b ≠ W1.heap.size ∧ b ≠ W2.heap.size) fun b h1 _ => by omega)
            replace RY := Lib.hid (RY.out.mono (S' := fun b => b ≠ W1.heap.size ∧ b ≠ W2.heap.size) fun b h1 _ => by omega)
            refine anyT_last (k := 6) rfl (by kernel_rfl) (by kernel_rfl) hcl ?_
            intro K hK
            clear hcl
            rw [if_pos (by rfl)]
            refine wp_store14 _ _ rfl W1.heap.size rfl rfl H5.out ⟨rfl, rfl, rfl, rfl, rfl, rfl, rfl, rfl, rfl, rfl, rfl, rfl, rfl, rfl⟩ ?_
            intro V6 e1 e4 e3
            replace HXD := Lib.hid ((e4 w.heap.size (by omega)).trans HXD.out)
            replace HYD := Lib.hid ((e4 (w.heap.size + 1) (by omega)).trans HYD.out)
            replace H6 := Lib.hid ((e4 W2.heap.size (by omega)).trans H6.out)
            replace H5 := Lib.hid e1
            replace RX := Lib.hid (RX.out.out fun c hc => e4 c (by omega))
            replace RY := Lib.hid (RY.out.out fun c hc => e4 c (by omega))
            replace HBD := Lib.hid (HBD.out.trans (e3.mono (by omega)))
            clear e1 e3 e4
            refine hK.out _ _ (fun hcl => ?_)
            clear hK K
            try simp only [Act.put, List.setIfInBounds_toArray, List.set_cons_zero, List.set_cons_succ]
            refine anyT_last (k := 7) rfl (by kernel_rfl) (by kernel_rfl) hcl ?_
            intro K hK
            clear hcl
            rw [if_pos (by rfl)]
            refine wp_store14 _ _ rfl W2.heap.size rfl rfl H6.out ⟨rfl, rfl, rfl, rfl, rfl, rfl, rfl, rfl, rfl, rfl, rfl, rfl, rfl, rfl⟩ ?_
            intro V7 e1 e4 e3
            replace HXD := Lib.hid ((e4 w.heap.size (by omega)).trans HXD.out)
            replace HYD := Lib.hid ((e4 (w.heap.size + 1) (by omega)).trans HYD.out)
            replace H5 := Lib.hid ((e4 W1.heap.size (by omega)).trans H5.out)
            replace H6 := Lib.hid e1
            replace RX := Lib.hid (RX.out.out fun c hc => e4 c (by omega))
            replace RY := Lib.hid (RY.out.out fun c hc => e4 c (by omega))
            replace HBD := Lib.hid (HBD.out.trans (e3.mono (by omega)))
            clear e1 e3 e4
            refine hK.out _ _ (fun hcl => ?_)
            clear hK K
            try simp only [Act.put, List.setIfInBounds_toArray, List.set_cons_zero, List.set_cons_succ]
            refine anyT_done (by kernel_rfl) ?_ _
            go_wp2_with fail
            go_meet
            exact ⟨⟨⟨bC, bc1⟩, ⟨bR, bc2⟩, ⟨bS, bc3⟩, ⟨bI, bc4⟩, ⟨bO, bc5⟩, ⟨bW, bc6⟩, ⟨bG, bc7⟩, ⟨bD, bc8⟩⟩, ⟨⟨eC, ec1⟩, ⟨eR, ec2⟩, ⟨eS, ec3⟩, ⟨eI, ec4⟩, ⟨eO, ec5⟩, ⟨eW, ec6⟩, ⟨eG, ec7⟩, ⟨eD, ec8⟩⟩, W1.heap.size, W2.heap.size, rfl, rfl, H5.out, H6.out, RX.out.any, RY.out.any, HXD.out, HYD.out, HBD.out⟩
      · intro K hK
        clear hcl
        go_simp
        replace HXD := Lib.hid (heap_on HXD.out (.cells #[.int .i64 0, .string ⟨#[]⟩, .slice none 0 0, .string ⟨#[]⟩, .string ⟨#[]⟩, .slice none 0 0, .slice none 0 0, .slice none 0 0, .string ⟨#[]⟩, .slice none 0 0, .slice none 0 0, .slice none 0 0, .slice none 0 0, .int .i64 0] 28))
        replace HYD := Lib.hid (heap_on HYD.out (.cells #[.int .i64 0, .string ⟨#[]⟩, .slice none 0 0, .string ⟨#[]⟩, .string ⟨#[]⟩, .slice none 0 0, .slice none 0 0, .slice none 0 0, .string ⟨#[]⟩, .slice none 0 0, .slice none 0 0, .slice none 0 0, .slice none 0 0, .int .i64 0] 28))
        replace RX := Lib.hid (RX.out.below (below1 _ (.cells #[.int .i64 0, .string ⟨#[]⟩, .slice none 0 0, .string ⟨#[]⟩, .string ⟨#[]⟩, .slice none 0 0, .slice none 0 0, .slice none 0 0, .string ⟨#[]⟩, .slice none 0 0, .slice none 0 0, .slice none 0 0, .slice none 0 0, .int .i64 0] 28)))
        have H6 := Lib.hid (heap_alloc_new W1 (.cells #[.int .i64 0, .string ⟨#[]⟩, .slice none 0 0, .string ⟨#[]⟩, .string ⟨#[]⟩, .slice none 0 0, .slice none 0 0, .slice none 0 0, .string ⟨#[]⟩, .slice none 0 0, .slice none 0 0, .slice none 0 0, .slice none 0 0, .int .i64 0] 28))
        replace HBD := Lib.hid (HBD.out.alloc HBD.out.size (.cells #[.int .i64 0, .string ⟨#[]⟩, .slice none 0 0, .string ⟨#[]⟩, .string ⟨#[]⟩, .slice none 0 0, .slice none 0 0, .slice none 0 0, .string ⟨#[]⟩, .slice none 0 0, .slice none 0 0, .slice none 0 0, .slice none 0 0, .int .i64 0] 28))
        have hz2 : W1.heap.size < (W1.alloc (.cells #[.int .i64 0, .string ⟨#[]⟩, .slice none 0 0, .string ⟨#[]⟩, .string ⟨#[]⟩, .slice none 0 0, .slice none 0 0, .slice none 0 0, .string ⟨#[]⟩, .slice none 0 0, .slice none 0 0, .slice none 0 0, .slice none 0 0, .int .i64 0] 28)).heap.size := by simp
        generalize (W1.alloc (.cells #[.int .i64 0, .string ⟨#[]⟩, .slice none 0 0, .string ⟨#[]⟩, .string ⟨#[]⟩, .slice none 0 0, .slice none 0 0, .slice none 0 0, .string ⟨#[]⟩, .slice none 0 0, .slice none 0 0, .slice none 0 0, .slice none 0 0, .int .i64 0] 28)) = W2 at *
        refine hK.out _ _ ⟨HXD.out, HYD.out⟩ (fun hS hcl => ?_)
        clear hK K hS
        try simp only [Act.put, List.setIfInBounds_toArray, List.set_cons_zero, List.set_cons_succ]
        refine anyT_all (rs := [3, 4]) (by kernel_rfl) rfl hcl ⟨⟨_, rfl, ?_⟩, ⟨_, rfl, ?_⟩, trivial⟩
        · intro K hK
          clear hcl
          go_simp
          go_at_call 11
          refine (HCY.out _ HBD.out).mono ?_
          rintro e W3 ⟨⟨⟨eC, ec1⟩, ⟨eR, ec2⟩, ⟨eS, ec3⟩, ⟨eI, ec4⟩, ⟨eO, ec5⟩, ⟨eW, ec6⟩, ⟨eG, ec7⟩, ⟨eD, ec8⟩⟩, rfl, hrd, hb⟩
          replace HXD := Lib.hid ((hb.block _ (heap_lt HXD.out)).trans HXD.out)
          replace HYD := Lib.hid ((hb.block _ (heap_lt HYD.out)).trans HYD.out)
          replace H6 := Lib.hid ((hb.block _ (heap_lt H6.out)).trans H6.out)
          replace RX := Lib.hid (RX.out.below hb)
          have RY := Lib.hid (RdSt.mono (S' := fun b => W2.heap.size ≤ b ∧ b < W3.heap.size) hrd fun b h1 h2 => ⟨h1, h2⟩)
          replace HBD := Lib.hid (below_call hb HBD.out HBD.out.size)
          have hz3 := hb.size
          clear hrd hb
          refine hK.out _ _ ⟨HXD.out, HYD.out⟩ (fun hS hcl => ?_)
          clear hK K hS
          try simp only [Act.put, List.setIfInBounds_toArray, List.set_cons_zero, List.set_cons_succ]
          refine anyT_all (rs := [4]) (by kernel_rfl) rfl hcl ⟨⟨_, rfl, ?_⟩, trivial⟩
          · intro K hK
            clear hcl
            go_simp
            replace HXD := Lib.hid (heap_on HXD.out (.cells #[.int .i64 0, .string ⟨#[]⟩, .slice none 0 0, .string ⟨#[]⟩, .string ⟨#[]⟩, .slice none 0 0, .slice none 0 0, .slice none 0 0, .string ⟨#[]⟩, .slice none 0 0, .slice none 0 0, .slice none 0 0, .slice none 0 0, .int .i64 0] 28))
            replace HYD := Lib.hid (heap_on HYD.out (.cells #[.int .i64 0, .string ⟨#[]⟩, .slice none 0 0, .string ⟨#[]⟩, .string ⟨#[]⟩, .slice none 0 0, .slice none 0 0, .slice none 0 0, .string ⟨#[]⟩, .slice none 0 0, .slice none 0 0, .slice none 0 0, .slice none 0 0, .int .i64 0] 28))
            replace H6 := Lib.hid (heap_on H6.out (.cells #[.int .i64 0, .string ⟨#[]⟩, .slice none 0 0, .string ⟨#[]⟩, .string ⟨#[]⟩, .slice none 0 0, .slice none 0 0, .slice none 0 0, .string ⟨#[]⟩, .slice none 0 0, .slice none 0 0, .slice none 0 0, .slice none 0 0, .int .i64 0] 28))
            replace RX := Lib.hid (RX.out.below (below1 _ (.cells #[.int .i64 0, .string ⟨#[]⟩, .slice none 0 0, .string ⟨#[]⟩, .string ⟨#[]⟩, .slice none 0 0, .slice none 0 0, .slice none 0 0, .string ⟨#[]⟩, .slice none 0 0, .slice none 0 0, .slice none 0 0, .slice none 0 0, .int .i64 0] 28)))
            replace RY := Lib.hid (RY.out.below (below1 _ (.cells #[.int .i64 0, .string ⟨#[]⟩, .slice none 0 0, .string ⟨#[]⟩, .string ⟨#[]⟩, .slice none 0 0, .slice none 0 0, .slice none 0 0, .string ⟨#[]⟩, .slice none 0 0, .slice none 0 0, .slice none 0 0, .slice none 0 0, .int .i64 0] 28)))
            have H5 := Lib.hid (heap_alloc_new W3 (.cells #[.int .i64 0, .string ⟨#[]⟩, .slice none 0 0, .string ⟨#[]⟩, .string ⟨#[]⟩, .slice none 0 0, .slice none 0 0, .slice none 0 0, .string ⟨#[]⟩, .slice none 0 0, .slice none 0 0, .slice none 0 0, .slice none 0 0, .int .i64 0] 28))
            replace HBD := Lib.hid (HBD.out.alloc HBD.out.size (.cells #[.int .i64 0, .string ⟨#[]⟩, .slice none 0 0, .string ⟨#[]⟩, .string ⟨#[]⟩, .slice none 0 0, .slice none 0 0, .slice none 0 0, .string ⟨#[]⟩, .slice none 0 0, .slice none 0 0, .slice none 0 0, .slice none 0 0, .int .i64 0] 28))
            have hz4 : W3.heap.size < (W3.alloc (.cells #[.int .i64 0, .string ⟨#[]⟩, .slice none 0 0, .string ⟨#[]⟩, .string ⟨#[]⟩, .slice none 0 0, .slice none 0 0, .slice none 0 0, .string ⟨#[]⟩, .slice none 0 0, .slice none 0 0, .slice none 0 0, .slice none 0 0, .int .i64 0] 28)).heap.size := by simp
            generalize (W3.alloc (.cells #[.int .i64 0, .string ⟨#[]⟩, .slice none 0 0, .string ⟨#[]⟩, .string ⟨#[]⟩, .slice none 0 0, .slice none 0 0, .slice none 0 0, .string ⟨#[]⟩, .slice none 0 0, .slice none 0 0, .slice none 0 0, .slice none 0 0, .int .i64 0] 28)) = W4 at *
            refine hK.out _ _ ⟨HXD.out, HYD.out⟩ (fun hS hcl => ?_)
            clear hK K hS
            try simp only [Act.put, List.setIfInBounds_toArray, List.set_cons_zero, List.set_cons_succ]
            have hne : W3.heap.size ≠ W1.heap.size := by omega
            replace RX := Lib.hid (RX.out.mono (S' := fun b => b ≠ W3.heap.size ∧ b ≠ W1.heap.size) fun b h1 _ => by omega)
            replace RY := Lib.hid (RY.out.mono (S' := fun b => b ≠ W3.heap.size ∧ b ≠ W1.heap.size) fun b h1 _ => by omega)
            refine anyT_last (k := 6) rfl (by kernel_rfl) (by kernel_rfl) hcl ?_
            intro K hK
            clear hcl
            rw [if_pos (by rfl)]
            refine wp_store14 _ _ rfl W3.heap.size rfl rfl H5.out ⟨rfl, rfl, rfl, rfl, rfl, rfl, rfl, rfl, rfl, rfl, rfl, rfl, rfl, rfl⟩ ?_
            intro V6 e1 e4 e3
            replace HXD := Lib.hid ((e4 w.heap.size (by omega)).trans HXD.out)
            replace HYD := Lib.hid ((e4 (w.heap.size + 1) (by omega)).trans HYD.out)
            replace H6 := Lib.hid ((e4 W1.heap.size (by omega)).trans H6.out)
            replace H5 := Lib.hid e1
            replace RX := Lib.hid (RX.out.out fun c hc => e4 c (by omega))
            replace RY := Lib.hid (RY.out.out fun c hc => e4 c (by omega))
            replace HBD := Lib.hid (HBD.out.trans (e3.mono (by omega)))
            clear e1 e3 e4
            refine hK.out _ _ (fun hcl => ?_)
            clear hK K
            try simp only [Act.put, List.setIfInBounds_toArray, List.set_cons_zero, List.set_cons_succ]
            refine anyT_last (k := 7) rfl (by kernel_rfl) (by kernel_rfl) hcl ?_
            intro K hK
            clear hcl
            rw [if_pos (by rfl)]
            refine wp_store14 _ _ rfl W1.heap.size rfl rfl H6.out ⟨rfl, rfl, rfl, rfl, rfl, rfl, rfl, rfl, rfl, rfl, rfl, rfl, rfl, rfl⟩ ?_
            intro V7 e1 e4 e3
            replace HXD := Lib.hid ((e4 w.heap.size (by omega)).trans HXD.out)
            replace HYD := Lib.hid ((e4 (w.heap.size + 1) (by omega)).trans HYD.out)
            replace H5 := Lib.hid ((e4 W3.heap.size (by omega)).trans H5.out)
            replace H6 := Lib.hid e1
            replace RX := Lib.hid (RX.out.out fun c hc => e4 c (by omega))
            replace RY := Lib.hid (RY.out.out fun c hc => e4 c (by omega))
            replace HBD := Lib.hid (HBD.out.trans (e3.mono (by omega)))
            clear e1 e3 e4
            refine hK.out _ _ (fun hcl => ?_)
            clear hK K
            try simp only [Act.put, List.setIfInBounds_toArray, List.set_cons_zero, List.set_cons_succ]
            refine anyT_done (by kernel_rfl) ?_ _
            go_wp2_with fail
            go_meet
            exact ⟨⟨⟨bC, bc1⟩, ⟨bR, bc2⟩, ⟨bS, bc3⟩, ⟨bI, bc4⟩, ⟨bO, bc5⟩, ⟨bW, bc6⟩, ⟨bG, bc7⟩, ⟨bD, bc8⟩⟩, ⟨⟨eC, ec1⟩, ⟨eR, ec2⟩, ⟨eS, ec3⟩, ⟨eI, ec4⟩, ⟨eO, ec5⟩, ⟨eW, ec6⟩, ⟨eG, ec7⟩, ⟨eD, ec8⟩⟩, W3.heap.size, W1.heap.size, rfl, rfl, H5.out, H6.out, RX.out.any, RY.out.any, HXD.out, HYD.out, HBD.out⟩
        · intro K hK
          clear hcl
          go_simp
          replace HXD := Lib.hid (heap_on HXD.out (.cells #[.int .i64 0, .string ⟨#[]⟩, .slice none 0 0, .string ⟨#[]⟩, .string ⟨#[]⟩, .slice none 0 0, .slice none 0 0, .slice none 0 0, .string ⟨#[]⟩, .slice none 0 0, .slice none 0 0, .slice none 0 0, .slice none 0 0, .int .i64 0] 28))
          replace HYD := Lib.hid (heap_on HYD.out (.cells #[.int .i64 0, .string ⟨#[]⟩, .slice none 0 0, .string ⟨#[]⟩, .string ⟨#[]⟩, .slice none 0 0, .slice none 0 0, .slice none 0 0, .string ⟨#[]⟩, .slice none 0 0, .slice none 0 0, .slice none 0 0, .slice none 0 0, .int .i64 0] 28))
          replace H6 := Lib.hid (heap_on H6.out (.cells #[.int .i64 0, .string ⟨#[]⟩, .slice none 0 0, .string ⟨#[]⟩, .string ⟨#[]⟩, .slice none 0 0, .slice none 0 0, .slice none 0 0, .string ⟨#[]⟩, .slice none 0 0, .slice none 0 0, .slice none 0 0, .slice none 0 0, .int .i64 0] 28))
          replace RX := Lib.hid (RX.out.below (below1 _ (.cells #[.int .i64 0, .string ⟨#[]⟩, .slice none 0 0, .string ⟨#[]⟩, .string ⟨#[]⟩, .slice none 0 0, .slice none 0 0, .slice none 0 0, .string ⟨#[]⟩, .slice none 0 0, .slice none 0 0, .slice none 0 0, .slice none 0 0, .int .i64 0] 28)))
          have H5 := Lib.hid (heap_alloc_new W2 (.cells #[.int .i64 0, .string ⟨#[]⟩, .slice none 0 0, .string ⟨#[]⟩, .string ⟨#[]⟩, .slice none 0 0, .slice none 0 0, .slice none 0 0, .string ⟨#[]⟩, .slice none 0 0, .slice none 0 0, .slice none 0 0, .slice none 0 0, .int .i64 0] 28))
          replace HBD := Lib.hid (HBD.out.alloc HBD.out.size (.cells #[.int .i64 0, .string ⟨#[]⟩, .slice none 0 0, .string ⟨#[]⟩, .string ⟨#[]⟩, .slice none 0 0, .slice none 0 0, .slice none 0 0, .string ⟨#[]⟩, .slice none 0 0, .slice none 0 0, .slice none 0 0, .slice none 0 0, .int .i64 0] 28))
          have hz3 : W2.heap.size < (W2.alloc (.cells #[.int .i64 0, .string ⟨#[]⟩, .slice none 0 0, .string ⟨#[]⟩, .string ⟨#[]⟩, .slice none 0 0, .slice none 0 0, .slice none 0 0, .string ⟨#[]⟩, .slice none 0 0, .slice none 0 0, .slice none 0 0, .slice none 0 0, .int .i64 0] 28)).heap.size := by simp
          generalize (W2.alloc (.cells #[.int .i64 0, .string ⟨#[]⟩, .slice none 0 0, .string ⟨#[]⟩, .string ⟨#[]⟩, .slice none 0 0, .slice none 0 0, .slice none 0 0, .string ⟨#[]⟩, .slice none 0 0, .slice none 0 0, .slice none 0 0, .slice none 0 0, .int .i64 0] 28)) = W3 at *
          refine hK.out _ _ ⟨HXD.out, HYD.out⟩ (fun hS hcl => ?_)
          clear hK K hS
          try simp only [Act.put, List.setIfInBounds_toArray, List.set_cons_zero, List.set_cons_succ]
          refine anyT_all (rs := [3]) (by kernel_rfl) rfl hcl ⟨⟨_, rfl, ?_⟩, trivial⟩
          · intro K hK
            clear hcl
            go_simp
            go_at_call 11
            refine (HCY.out _ HBD.out).mono ?_
            rintro e W4 ⟨⟨⟨eC, ec1⟩, ⟨eR, ec2⟩, ⟨eS, ec3⟩, ⟨eI, ec4⟩, ⟨eO, ec5⟩, ⟨eW, ec6⟩, ⟨eG, ec7⟩, ⟨eD, ec8⟩⟩, rfl, hrd, hb⟩
            replace HXD := Lib.hid ((hb.block _ (heap_lt HXD.out)).trans HXD.out)
            replace HYD := Lib.hid ((hb.block _ (heap_lt HYD.out)).trans HYD.out)
            replace H5 := Lib.hid ((hb.block _ (heap_lt H5.out)).trans H5.out)
            replace H6 := Lib.hid ((hb.block _ (heap_lt H6.out)).trans H6.out)
            replace RX := Lib.hid (RX.out.below hb)
            have RY := Lib.hid (RdSt.mono (S' := fun b => W3.heap.size ≤ b ∧ b < W4.heap.size) hrd fun b h1 h2 => ⟨h1, h2⟩)
            replace HBD := Lib.hid (below_call hb HBD.out HBD.out.size)
            have hz4 := hb.size
            clear hrd hb
            refine hK.out _ _ ⟨HXD.out, HYD.out⟩ (fun hS hcl => ?_)
            clear hK K hS
            try simp only [Act.put, List.setIfInBounds_toArray, List.set_cons_zero, List.set_cons_succ]
            have hne : W2.heap.size ≠ W1.heap.size := by omega
            replace RX := Lib.hid (RX.out.mono (S' := fun b => b ≠ W2.heap.size ∧ b ≠ W1.heap.size) fun b h1 _ => by omega)
            replace RY := Lib.hid (RY.out.mono (S' := fun b => b ≠ W2.heap.size ∧ b ≠ W1.heap.size) fun b h1 _ => by omega)
            refine anyT_last (k := 6) rfl (by kernel_rfl) (by kernel_rfl) hcl ?_
            intro K hK
            clear hcl
            rw [if_pos (by rfl)]
            refine wp_store14 _ _ rfl W2.heap.size rfl rfl H5.out ⟨rfl, rfl, rfl, rfl, rfl, rfl, rfl, rfl, rfl, rfl, rfl, rfl, rfl, rfl⟩ ?_
            intro V6 e1 e4 e3
            replace HXD := Lib.hid ((e4 w.heap.size (by omega)).trans HXD.out)
            replace HYD := Lib.hid ((e4 (w.heap.size + 1) (by omega)).trans HYD.out)
            replace H6 := Lib.hid ((e4 W1.heap.size (by omega)).trans H6.out)
            replace H5 := Lib.hid e1
            replace RX := Lib.hid (RX.out.out fun c hc => e4 c (by omega))
            replace RY := Lib.hid (RY.out.out fun c hc => e4 c (by omega))
            replace HBD := Lib.hid (HBD.out.trans (e3.mono (by omega)))
            clear e1 e3 e4
            refine hK.out _ _ (fun hcl => ?_)
            clear hK K
            try simp only [Act.put, List.setIfInBounds_toArray, List.set_cons_zero, List.set_cons_succ]
            refine anyT_last (k := 7) rfl (by kernel_rfl) (by kernel_rfl) hcl ?_
            intro K hK
            clear hcl
            rw [if_pos (by rfl)]
            refine wp_store14 _ _ rfl W1.heap.size rfl rfl H6.out ⟨rfl, rfl, rfl, rfl, rfl, rfl, rfl, rfl, rfl, rfl, rfl, rfl, rfl, rfl⟩ ?_
            intro V7 e1 e4 e3
            replace HXD := Lib.hid ((e4 w.heap.size (by omega)).trans HXD.out)
            replace HYD := Lib.hid ((e4 (w.heap.size + 1) (by omega)).trans HYD.out)
            replace H5 := Lib.hid ((e4 W2.heap.size (by omega)).trans H5.out)
            replace H6 := Lib.hid e1
            replace RX := Lib.hid (RX.out.out fun c hc => e4 c (by omega))
            replace RY := Lib.hid (RY.out.out fun c hc => e4 c (by omega))
            replace HBD := Lib.hid (HBD.out.trans (e3.mono (by omega)))
            clear e1 e3 e4
            refine hK.out _ _ (fun hcl => ?_)
            clear hK K
            try simp only [Act.put, List.setIfInBounds_toArray, List.set_cons_zero, List.set_cons_succ]
            refine anyT_done (by kernel_rfl) ?_ _
            go_wp2_with fail
            go_meet
            exact ⟨⟨⟨bC, bc1⟩, ⟨bR, bc2⟩, ⟨bS, bc3⟩, ⟨bI, bc4⟩, ⟨bO, bc5⟩, ⟨bW, bc6⟩, ⟨bG, bc7⟩, ⟨bD, bc8⟩⟩, ⟨⟨eC, ec1⟩, ⟨eR, ec2⟩, ⟨eS, ec3⟩, ⟨eI, ec4⟩, ⟨eO, ec5⟩, ⟨eW, ec6⟩, ⟨eG, ec7⟩, ⟨eD, ec8⟩⟩, W2.heap.size, W1.heap.size, rfl, rfl, H5.out, H6.out, RX.out.any, RY.out.any, HXD.out, HYD.out, HBD.out⟩
    · intro K hK
      clear hcl
      go_simp
      replace HXD := Lib.hid (heap_on HXD.out (.cells #[.int .i64 0, .string ⟨#[]⟩, .slice none 0 0, .string ⟨#[]⟩, .string ⟨#[]⟩, .slice none 0 0, .slice none 0 0, .slice none 0 0, .string ⟨#[]⟩, .slice none 0 0, .slice none 0 0, .slice none 0 0, .slice none 0 0, .int .i64 0] 28))
      replace HYD := Lib.hid (heap_on HYD.out (.cells #[.int .i64 0, .string ⟨#[]⟩, .slice none 0 0, .string ⟨#[]⟩, .string ⟨#[]⟩, .slice none 0 0, .slice none 0 0, .slice none 0 0, .string ⟨#[]⟩, .slice none 0 0, .slice none 0 0, .slice none 0 0, .slice none 0 0, .int .i64 0] 28))
      have H5 := Lib.hid (heap_alloc_new W0 (.cells #[.int .i64 0, .string ⟨#[]⟩, .slice none 0 0, .string ⟨#[]⟩, .string ⟨#[]⟩, .slice none 0 0, .slice none 0 0, .slice none 0 0, .string ⟨#[]⟩, .slice none 0 0, .slice none 0 0, .slice none 0 0, .slice none 0 0, .int .i64 0] 28))
      replace HBD := Lib.hid (HBD.out.alloc HBD.out.size (.cells #[.int .i64 0, .string ⟨#[]⟩, .slice none 0 0, .string ⟨#[]⟩, .string ⟨#[]⟩, .slice none 0 0, .slice none 0 0, .slice none 0 0, .string ⟨#[]⟩, .slice none 0 0, .slice none 0 0, .slice none 0 0, .slice none 0 0, .int .i64 0] 28))
      have hz1 : W0.heap.size < (W0.alloc (.cells #[.int .i64 0, .string ⟨#[]⟩, .slice none 0 0, .string ⟨#[]⟩, .string ⟨#[]⟩, .slice none 0 0, .slice none 0 0, .slice none 0 0, .string ⟨#[]⟩, .slice none 0 0, .slice none 0 0, .slice none 0 0, .slice none 0 0, .int .i64 0] 28)).heap.size := by simp
      generalize (W0.alloc (.cells #[.int .i64 0, .string ⟨#[]⟩, .slice none 0 0, .string ⟨#[]⟩, .string ⟨#[]⟩, .slice none 0 0, .slice none 0 0, .slice none 0 0, .string ⟨#[]⟩, .slice none 0 0, .slice none 0 0, .slice none 0 0, .slice none 0 0, .int .i64 0] 28)) = W1 at *
      refine hK.out _ _ ⟨HXD.out, HYD.out⟩ (fun hS hcl => ?_)
      clear hK K hS
      try simp only [Act.put, List.setIfInBounds_toArray, List.set_cons_zero, List.set_cons_succ]
      refine anyT_all (rs := [1, 5]) (by kernel_rfl) rfl hcl ⟨⟨_, rfl, ?_⟩, ⟨_, rfl, ?_⟩, trivial⟩
      · intro K hK
        clear hcl
        go_simp
        go_at_call 11
        refine (HCX.out _ HBD.out).mono ?_
        rintro e W2 ⟨⟨⟨bC, bc1⟩, ⟨bR, bc2⟩, ⟨bS, bc3⟩, ⟨bI, bc4⟩, ⟨bO, bc5⟩, ⟨bW, bc6⟩, ⟨bG, bc7⟩, ⟨bD, bc8⟩⟩, rfl, hrd, hb⟩
        replace HXD := Lib.hid ((hb.block _ (heap_lt HXD.out)).trans HXD.out)
        replace HYD := Lib.hid ((hb.block _ (heap_lt HYD.out)).trans HYD.out)
        replace H5 := Lib.hid ((hb.block _ (heap_lt H5.out)).trans H5.out)
        have RX := Lib.hid (RdSt.mono (S' := fun b => W1.heap.size ≤ b ∧ b < W2.heap.size) hrd fun b h1 h2 => ⟨h1, h2⟩)
        replace HBD := Lib.hid (below_call hb HBD.out HBD.out.size)
        have hz2 := hb.size
        clear hrd hb
        refine hK.out _ _ ⟨HXD.out, HYD.out⟩ (fun hS hcl => ?_)
        clear hK K hS
        try simp only [Act.put, List.setIfInBounds_toArray, List.set_cons_zero, List.set_cons_succ]
        refine anyT_all (rs := [3, 5]) (by kernel_rfl) rfl hcl ⟨⟨_, rfl, ?_⟩, ⟨_, rfl, ?_⟩, trivial⟩
        · intro K hK
          clear hcl
          go_simp
          go_at_call 11
          refine (HCY.out _ HBD.out).mono ?_
          rintro e W3 ⟨⟨⟨eC, ec1⟩, ⟨eR, ec2⟩, ⟨eS, ec3⟩, ⟨eI, ec4⟩, ⟨eO, ec5⟩, ⟨eW, ec6⟩, ⟨eG, ec7⟩, ⟨eD, ec8⟩⟩, rfl, hrd, hb⟩
          replace HXD := Lib.hid ((hb.block _ (heap_lt HXD.out)).trans HXD.out)
          replace HYD := Lib.hid ((hb.block _ (heap_lt HYD.out)).trans HYD.out)
          replace H5 := Lib.hid ((hb.block _ (heap_lt H5.out)).trans H5.out)
          replace RX := Lib.hid (RX.out.below hb)
          have RY := Lib.hid (RdSt.mono (S' := fun b => W2.heap.size ≤ b ∧ b < W3.heap.size) hrd fun b h1 h2 => ⟨h1, h2⟩)
          replace HBD := Lib.hid (below_call hb HBD.out HBD.out.size)
          have hz3 := hb.size
          clear hrd hb
          refine hK.out _ _ ⟨HXD.out, HYD.out⟩ (fun hS hcl => ?_)
          clear hK K hS
          try simp only [Act.put, List.setIfInBounds_toArray, List.set_cons_zero, List.set_cons_succ]
          refine anyT_all (rs := [5]) (by kernel_rfl) rfl hcl ⟨⟨_, rfl, ?_⟩, trivial⟩
          · intro K hK
            clear hcl
            go_simp
            replace HXD := Lib.hid (heap_on HXD.out (.cells #[.int .i64 0, .string ⟨#[]⟩, .slice none 0 0, .string ⟨#[]⟩, .string ⟨#[]⟩, .slice none 0 0, .slice none 0 0, .slice none 0 0, .string ⟨#[]⟩, .slice none 0 0, .slice none 0 0, .slice none 0 0, .slice none 0 0, .int .i64 0] 28))
            replace HYD := Lib.hid (heap_on HYD.out (.cells #[.int .i64 0, .string ⟨#[]⟩, .slice none 0 0, .string ⟨#[]⟩, .string ⟨#[]⟩, .slice none 0 0, .slice none 0 0, .slice none 0 0, .string ⟨#[]⟩, .slice none 0 0, .slice none 0 0, .slice none 0 0, .slice none 0 0, .int .i64 0] 28))
            replace H5 := Lib.hid (heap_on H5.out (.cells #[.int .i64 0, .string ⟨#[]⟩, .slice none 0 0, .string ⟨#[]⟩, .string ⟨#[]⟩, .slice none 0 0, .slice none 0 0, .slice none 0 0, .string ⟨#[]⟩, .slice none 0 0, .slice none 0 0, .slice none 0 0, .slice none 0 0, .int .i64 0] 28))
            replace RX := Lib.hid (RX.out.below (below1 _ (.cells #[.int .i64 0, .string ⟨#[]⟩, .slice none 0 0, .string ⟨#[]⟩, .string ⟨#[]⟩, .slice none 0 0, .slice none 0 0, .slice none 0 0, .string ⟨#[]⟩, .slice none 0 0, .slice none 0 0, .slice none 0 0, .slice none 0 0, .int .i64 0] 28)))
            replace RY := Lib.hid (RY.out.below (below1 _ (.cells #[.int .i64 0, .string ⟨#[]⟩, .slice none 0 0, .string ⟨#[]⟩, .string ⟨#[]⟩, .slice none 0 0, .slice none 0 0, .slice none 0 0, .string ⟨#[]⟩, .slice none 0 0, .slice none 0 0, .slice none 0 0, .slice none 0 0, .int .i64 0] 28)))
            have H6 := Lib.hid (heap_alloc_new W3 (.cells #[.int .i64 0, .string ⟨#[]⟩, .slice none 0 0, .string ⟨#[]⟩, .string ⟨#[]⟩, .slice none 0 0, .slice none 0 0, .slice none 0 0, .string ⟨#[]⟩, .slice none 0 0, .slice none 0 0, .slice none 0 0, .slice none 0 0, .int .i64 0] 28))
            replace HBD := Lib.hid (HBD.out.alloc HBD.out.size (.cells #[.int .i64 0, .string ⟨#[]⟩, .slice none 0 0, .string ⟨#[]⟩, .string ⟨#[]⟩, .slice none 0 0, .slice none 0 0, .slice none 0 0, .string ⟨#[]⟩, .slice none 0 0, .slice none 0 0, .slice none 0 0, .slice none 0 0, .int .i64 0] 28))
            have hz4 : W3.heap.size < (W3.alloc (.cells #[.int .i64 0, .string ⟨#[]⟩, .slice none 0 0, .string ⟨#[]⟩, .string ⟨#[]⟩, .slice none 0 0, .slice none 0 0, .slice none 0 0, .string ⟨#[]⟩, .slice none 0 0, .slice none 0 0, .slice none 0 0, .slice none 0 0, .int .i64 0] 28)).heap.size := by simp
            generalize (W3.alloc (.cells #[.int .i64 0, .string ⟨#[]⟩, .slice none 0 0, .string ⟨#[]⟩, .string ⟨#[]⟩, .slice none 0 0, .slice none 0 0, .slice none 0 0, .string ⟨#[]⟩, .slice none 0 0, .slice none 0 0, .slice none 0 0, .slice none 0 0, .int .i64 0] 28)) = W4 at *
            refine hK.out _ _ ⟨HXD.out, HYD.out⟩ (fun hS hcl => ?_)
            clear hK K hS
            try simp only [Act.put, List.setIfInBounds_toArray, List.set_cons_zero, List.set_cons_succ]
            have hne : W0.heap.size ≠ W3.heap.size := by omega
            replace RX := Lib.hid (RX.out.mono (S' := fun b => b ≠ W0.heap.size ∧ b ≠ W3.heap.size) fun b h1 _ => by omega)
            replace RY := Lib.hid (RY.out.mono (S' := fun b => b ≠ W0.heap.size ∧ b ≠ W3.heap.size) fun b h1 _ => by omega)
            refine anyT_last (k := 6) rfl (by kernel_rfl) (by kernel_rfl) hcl ?_
            intro K hK
            clear hcl
            rw [if_pos (by rfl)]
            refine wp_store14 _ _ rfl W0.heap.size rfl rfl H5.out ⟨rfl, rfl, rfl, rfl, rfl, rfl, rfl, rfl, rfl, rfl, rfl, rfl, rfl, rfl⟩ ?_
            intro V6 e1 e4 e3
            replace HXD := Lib.hid ((e4 w.heap.size (by omega)).trans HXD.out)
            replace HYD := Lib.hid ((e4 (w.heap.size + 1) (by omega)).trans HYD.out)
            replace H6 := Lib.hid ((e4 W3.heap.size (by omega)).trans H6.out)
            replace H5 := Lib.hid e1
            replace RX := Lib.hid (RX.out.out fun c hc => e4 c (by omega))
            replace RY := Lib.hid (RY.out.out fun c hc => e4 c (by omega))
            replace HBD := Lib.hid (HBD.out.trans (e3.mono (by omega)))
            clear e1 e3 e4
            refine hK.out _ _ (fun hcl => ?_)
            clear hK K
            try simp only [Act.put, List.setIfInBounds_toArray, List.set_cons_zero, List.set_cons_succ]
            refine anyT_last (k := 7) rfl (by kernel_rfl) (by kernel_rfl) hcl ?_
            intro K hK
            clear hcl
            rw [if_pos (by rfl)]
            refine wp_store14 _ _ rfl W3.heap.size rfl rfl H6.out ⟨rfl, rfl, rfl, rfl, rfl, rfl, rfl, rfl, rfl, rfl, rfl, rfl, rfl, rfl⟩ ?_
            intro V7 e1 e4 e3
            replace HXD := Lib.hid ((e4 w.heap.size (by omega)).trans HXD.out)
            replace HYD := Lib.hid ((e4 (w.heap.size + 1) (by omega)).trans HYD.out)
            replace H5 := Lib.hid ((e4 W0.heap.size (by omega)).trans H5.out)
            replace H6 := Lib.hid e1
            replace RX := Lib.hid (RX.out.out fun c hc => e4 c (by omega))
            replace RY := Lib.hid (RY.out.out fun c hc => e4 c (by omega))
            replace HBD := Lib.hid (HBD.out.trans (e3.mono (by omega)))
            clear e1 e3 e4
            refine hK.out _ _ (fun hcl => ?_)
            clear hK K
            try simp only [Act.put, List.setIfInBounds_toArray, List.set_cons_zero, List.set_cons_succ]
            refine anyT_done (by kernel_rfl) ?_ _
            go_wp2_with fail
            go_meet
            exact ⟨⟨⟨bC, bc1⟩, ⟨bR, bc2⟩, ⟨bS, bc3⟩, ⟨bI, bc4⟩, ⟨bO, bc5⟩, ⟨bW, bc6⟩, ⟨bG, bc7⟩, ⟨bD, bc8⟩⟩, ⟨⟨eC, ec1⟩, ⟨eR, ec2⟩, ⟨eS, ec3⟩, ⟨eI, ec4⟩, ⟨eO, ec5⟩, ⟨eW, ec6⟩, ⟨eG, ec7⟩, ⟨eD, ec8⟩⟩, W0.heap.size, W3.heap.size, rfl, rfl, H5.out, H6.out, RX.out.any, RY.out.any, HXD.out, HYD.out, HBD.out⟩
        · intro K hK
          clear hcl
          go_simp
          replace HXD := Lib.hid (heap_on HXD.out (.cells #[.int .i64 0, .string ⟨#[]⟩, .slice none 0 0, .string ⟨#[]⟩, .string ⟨#[]⟩, .slice none 0 0, .slice none 0 0, .slice none 0 0, .string ⟨#[]⟩, .slice none 0 0, .slice none 0 0, .slice none 0 0, .slice none 0 0, .int .i64 0] 28))
          replace HYD := Lib.hid (heap_on HYD.out (.cells #[.int .i64 0, .string ⟨#[]⟩, .slice none 0 0, .string ⟨#[]⟩, .string ⟨#[]⟩, .slice none 0 0, .slice none 0 0, .slice none 0 0, .string ⟨#[]⟩, .slice none 0 0, .slice none 0 0, .slice none 0 0, .slice none 0 0, .int .i64 0] 28))
          replace H5 := Lib.hid (heap_on H5.out (.cells #[.int .i64 0, .string ⟨#[]⟩, .slice none 0 0, .string ⟨#[]⟩, .string ⟨#[]⟩, .slice none 0 0, .slice none 0 0, .slice none 0 0, .string ⟨#[]⟩, .slice none 0 0, .slice none 0 0, .slice none 0 0, .slice none 0 0, .int .i64 0] 28))
          replace RX := Lib.hid (RX.out.below (below1 _ (.cells #[.int .i64 0, .string ⟨#[]⟩, .slice none 0 0, .string ⟨#[]⟩, .string ⟨#[]⟩, .slice none 0 0, .slice none 0 0, .slice none 0 0, .string ⟨#[]⟩, .slice none 0 0, .slice none 0 0, .slice none 0 0, .slice none 0 0, .int .i64 0] 28)))
          have H6 := Lib.hid (heap_alloc_new W2 (.cells #[.int .i64 0, .string ⟨#[]⟩, .slice none 0 0, .string ⟨#[]⟩, .string ⟨#[]⟩, .slice none 0 0, .slice none 0 0, .slice none 0 0, .string ⟨#[]⟩, .slice none 0 0, .slice none 0 0, .slice none 0 0, .slice none 0 0, .int .i64 0] 28))
          replace HBD := Lib.hid (HBD.out.alloc HBD.out.size (.cells #[.int .i64 0, .string ⟨#[]⟩, .slice none 0 0, .string ⟨#[]⟩, .string ⟨#[]⟩, .slice none 0 0, .slice none 0 0, .slice none 0 0, .string ⟨#[]⟩, .slice none 0 0, .slice none 0 0, .slice none 0 0, .slice none 0 0, .int .i64 0] 28))
          have hz3 : W2.heap.size < (W2.alloc (.cells #[.int .i64 0, .string ⟨#[]⟩, .slice none 0 0, .string ⟨#[]⟩, .string ⟨#[]⟩, .slice none 0 0, .slice none 0 0, .slice none 0 0, .string ⟨#[]⟩, .slice none 0 0, .slice none 0 0, .slice none 0 0, .slice none 0 0, .int .i64 0] 28)).heap.size := by simp
          generalize (W2.alloc (.cells #[.int .i64 0, .string ⟨#[]⟩, .slice none 0 0, .string ⟨#[]⟩, .string ⟨#[]⟩, .slice none 0 0, .slice none 0 0, .slice none 0 0, .string ⟨#[]⟩, .slice none 0 0, .slice none 0 0, .slice none 0 0, .slice none 0 0, .int .i64 0] 28)) = W3 at *
          refine hK.out _ _ ⟨HXD.out, HYD.out⟩ (fun hS hcl => ?_)
          clear hK K hS
          try simp only [Act.put, List.setIfInBounds_toArray, List.set_cons_zero, List.set_cons_succ]
          refine anyT_all (rs := [3]) (by kernel_rfl) rfl hcl ⟨⟨_, rfl, ?_⟩, trivial⟩
          · intro K hK
            clear hcl
            go_simp
            go_at_call 11
            refine (HCY.out _ HBD.out).mono ?_
            rintro e W4 ⟨⟨⟨eC, ec1⟩, ⟨eR, ec2⟩, ⟨eS, ec3⟩, ⟨eI, ec4⟩, ⟨eO, ec5⟩, ⟨eW, ec6⟩, ⟨eG, ec7⟩, ⟨eD, ec8⟩⟩, rfl, hrd, hb⟩
            replace HXD := Lib.hid ((hb.block _ (heap_lt HXD.out)).trans HXD.out)
            replace HYD := Lib.hid ((hb.block _ (heap_lt HYD.out)).trans HYD.out)
            replace H5 := Lib.hid ((hb.block _ (heap_lt H5.out)).trans H5.out)
            replace H6 := Lib.hid ((hb.block _ (heap_lt H6.out)).trans H6.out)
            replace RX := Lib.hid (RX.out.below hb)
            have RY := Lib.hid (RdSt.mono (S' := fun b => W3.heap.size ≤ b ∧ b < W4.heap.size) hrd fun b h1 h2 => ⟨h1, h2⟩)
            replace HBD := Lib.hid (below_call hb HBD.out HBD.out.size)
            have hz4 := hb.size
            clear hrd hb
            refine hK.out _ _ ⟨HXD.out, HYD.out⟩ (fun hS hcl => ?_)
            clear hK K hS
            try simp only [Act.put, List.setIfInBounds_toArray, List.set_cons_zero, List.set_cons_succ]
            have hne : W0.heap.size ≠ W2.heap.size := by omega
            replace RX := Lib.hid (RX.out.mono (S' := fun b => b ≠ W0.heap.size ∧ b ≠ W2.heap.size) fun b h1 _ => by omega)
            replace RY := Lib.hid (RY.out.mono (S' := fun b => b ≠ W0.heap.size ∧ b ≠ W2.heap.size) fun b h1 _ => by omega)
            refine anyT_last (k := 6) rfl (by kernel_rfl) (by kernel_rfl) hcl ?_
            intro K hK
            clear hcl
            rw [if_pos (by rfl)]
            refine wp_store14 _ _ rfl W0.heap.size rfl rfl H5.out ⟨rfl, rfl, rfl, rfl, rfl, rfl, rfl, rfl, rfl, rfl, rfl, rfl, rfl, rfl⟩ ?_
            intro V6 e1 e4 e3
            replace HXD := Lib.hid ((e4 w.heap.size (by omega)).trans HXD.out)
            replace HYD := Lib.hid ((e4 (w.heap.size + 1) (by omega)).trans HYD.out)
            replace H6 := Lib.hid ((e4 W2.heap.size (by omega)).trans H6.out)
            replace H5 := Lib.hid e1
            replace RX := Lib.hid (RX.out.out fun c hc => e4 c (by omega))
            replace RY := Lib.hid (RY.out.out fun c hc => e4 c (by omega))
            replace HBD := Lib.hid (HBD.out.trans (e3.mono (by omega)))
            clear e1 e3 e4
            refine hK.out _ _ (fun hcl => ?_)
            clear hK K
            try simp only [Act.put, List.setIfInBounds_toArray, List.set_cons_zero, List.set_cons_succ]
            refine anyT_last (k := 7) rfl (by kernel_rfl) (by kernel_rfl) hcl ?_
            intro K hK
            clear hcl
            rw [if_pos (by rfl)]
            refine wp_store14 _ _ rfl W2.heap.size rfl rfl H6.out ⟨rfl, rfl, rfl, rfl, rfl, rfl, rfl, rfl, rfl, rfl, rfl, rfl, rfl, rfl⟩ ?_
            intro V7 e1 e4 e3
            replace HXD := Lib.hid ((e4 w.heap.size (by omega)).trans HXD.out)
            replace HYD := Lib.hid ((e4 (w.heap.size + 1) (by omega)).trans HYD.out)
            replace H5 := Lib.hid ((e4 W0.heap.size (by omega)).trans H5.out)
            replace H6 := Lib.hid e1
            replace RX := Lib.hid (RX.out.out fun c hc => e4 c (by omega))
            replace RY := Lib.hid (RY.out.out fun c hc => e4 c (by omega))
            replace HBD := Lib.hid (HBD.out.trans (e3.mono (by omega)))
            clear e1 e3 e4
            refine hK.out _ _ (fun hcl => ?_)
            clear hK K
            try simp only [Act.put, List.setIfInBounds_toArray, List.set_cons_zero, List.set_cons_succ]
            refine anyT_done (by kernel_rfl) ?_ _
            go_wp2_with fail
            go_meet
            exact ⟨⟨⟨bC, bc1⟩, ⟨bR, bc2⟩, ⟨bS, bc3⟩, ⟨bI, bc4⟩, ⟨bO, bc5⟩, ⟨bW, bc6⟩, ⟨bG, bc7⟩, ⟨bD, bc8⟩⟩, ⟨⟨eC, ec1⟩, ⟨eR, ec2⟩, ⟨eS, ec3⟩, ⟨eI, ec4⟩, ⟨eO, ec5⟩, ⟨eW, ec6⟩, ⟨eG, ec7⟩, ⟨eD, ec8⟩⟩, W0.heap.size, W2.heap.size, rfl, rfl, H5.out, H6.out, RX.out.any, RY.out.any, HXD.out, HYD.out, HBD.out⟩
      · intro K hK
        clear hcl
        go_simp
        replace HXD := Lib.hid (heap_on HXD.out (.cells #[.int .i64 0, .string ⟨#[]⟩, .slice none 0 0, .string ⟨#[]⟩, .string ⟨#[]⟩, .slice none 0 0, .slice none 0 0, .slice none 0 0, .string ⟨#[]⟩, .slice none 0 0, .slice none 0 0, .slice none 0 0, .slice none 0 0, .int .i64 0] 28))
        replace HYD := Lib.hid (heap_on HYD.out (.cells #[.int .i64 0, .string ⟨#[]⟩, .slice none 0 0, .string ⟨#[]⟩, .string ⟨#[]⟩, .slice none 0 0, .slice none 0 0, .slice none 0 0, .string ⟨#[]⟩, .slice none 0 0, .slice none 0 0, .slice none 0 0, .slice none 0 0, .int .i64 0] 28))
        replace H5 := Lib.hid (heap_on H5.out (.cells #[.int .i64 0, .string ⟨#[]⟩, .slice none 0 0, .string ⟨#[]⟩, .string ⟨#[]⟩, .slice none 0 0, .slice none 0 0, .slice none 0 0, .string ⟨#[]⟩, .slice none 0 0, .slice none 0 0, .slice none 0 0, .slice none 0 0, .int .i64 0] 28))
        have H6 := Lib.hid (heap_alloc_new W1 (.cells #[.int .i64 0, .string ⟨#[]⟩, .slice none 0 0, .string ⟨#[]⟩, .string ⟨#[]⟩, .slice none 0 0, .slice none 0 0, .slice none 0 0, .string ⟨#[]⟩, .slice none 0 0, .slice none 0 0, .slice none 0 0, .slice none 0 0, .int .i64 0] 28))
        replace HBD := Lib.hid (HBD.out.alloc HBD.out.size (.cells #[.int .i64 0, .string ⟨#[]⟩, .slice none 0 0, .string ⟨#[]⟩, .string ⟨#[]⟩, .slice none 0 0, .slice none 0 0, .slice none 0 0, .string ⟨#[]⟩, .slice none 0 0, .slice none 0 0, .slice none 0 0, .slice none 0 0, .int .i64 0] 28))
        have hz2 : W1.heap.size < (W1.alloc (.cells #[.int .i64 0, .string ⟨#[]⟩, .slice none 0 0, .string ⟨#[]⟩, .string ⟨#[]⟩, .slice none 0 0, .slice none 0 0, .slice none 0 0, .string ⟨#[]⟩, .slice none 0 0, .slice none 0 0, .slice none 0 0, .slice none 0 0, .int .i64 0] 28)).heap.size := by simp
        generalize (W1.alloc (.cells #[.int .i64 0, .string ⟨#[]⟩, .slice none 0 0, .string ⟨#[]⟩, .string ⟨#[]⟩, .slice none 0 0, .slice none 0 0, .slice none 0 0, .string ⟨#[]⟩, .slice none 0 0, .slice none 0 0, .slice none 0 0, .slice none 0 0, .int .i64 0] 28)) = W2 at *
        refine hK.out _ _ ⟨HXD.out, HYD.out⟩ (fun hS hcl => ?_)
        clear hK K hS
        try simp only [Act.put, List.setIfInBounds_toArray, List.set_cons_zero, List.set_cons_succ]
        refine anyT_all (rs := [1]) (by kernel_rfl) rfl hcl ⟨⟨_, rfl, ?_⟩, trivial⟩
        · intro K hK
          clear hcl
          go_simp
          go_at_call 11
          refine (HCX.out _ HBD.out).mono ?_
          rintro e W3 ⟨⟨⟨bC, bc1⟩, ⟨bR, bc2⟩, ⟨bS, bc3⟩, ⟨bI, bc4⟩, ⟨bO, bc5⟩, ⟨bW, bc6⟩, ⟨bG, bc7⟩, ⟨bD, bc8⟩⟩, rfl, hrd, hb⟩
          replace HXD := Lib.hid ((hb.block _ (heap_lt HXD.out)).trans HXD.out)
          replace HYD := Lib.hid ((hb.block _ (heap_lt HYD.out)).trans HYD.out)
          replace H5 := Lib.hid ((hb.block _ (heap_lt H5.out)).trans H5.out)
          replace H6 := Lib.hid ((hb.block _ (heap_lt H6.out)).trans H6.out)
          have RX := Lib.hid (RdSt.mono (S' := fun b => W2.heap.size ≤ b ∧ b < W3.heap.size) hrd fun b h1 h2 => ⟨h1, h2⟩)
          replace HBD := Lib.hid (below_call hb HBD.out HBD.out.size)
          have hz3 := hb.size
          clear hrd hb
          refine hK.out _ _ ⟨HXD.out, HYD.out⟩ (fun hS hcl => ?_)
          clear hK K hS
          try simp only [Act.put, List.setIfInBounds_toArray, List.set_cons_zero, List.set_cons_succ]
          refine anyT_all (rs := [3]) (by kernel_rfl) rfl hcl ⟨⟨_, rfl, ?_⟩, trivial⟩
          · intro K hK
            clear hcl
            go_simp
            go_at_call 11
            refine (HCY.out _ HBD.out).mono ?_
            rintro e W4 ⟨⟨⟨eC, ec1⟩, ⟨eR, ec2⟩, ⟨eS, ec3⟩, ⟨eI, ec4⟩, ⟨eO, ec5⟩, ⟨eW, ec6⟩, ⟨eG, ec7⟩, ⟨eD, ec8⟩⟩, rfl, hrd, hb⟩
            replace HXD := Lib.hid ((hb.block _ (heap_lt HXD.out)).trans HXD.out)
            replace HYD := Lib.hid ((hb.block _ (heap_lt HYD.out)).trans HYD.out)
            replace H5 := Lib.hid ((hb.block _ (heap_lt H5.out)).trans H5.out)
            replace H6 := Lib.hid ((hb.block _ (heap_lt H6.out)).trans H6.out)
            replace RX := Lib.hid (RX.out.below hb)
            have RY := Lib.hid (RdSt.mono (S' := fun b => W3.heap.size ≤ b ∧ b < W4.heap.size) hrd fun b h1 h2 => ⟨h1, h2⟩)
            replace HBD := Lib.hid (below_call hb HBD.out HBD.out.size)
            have hz4 := hb.size
            clear hrd hb
            refine hK.out _ _ ⟨HXD.out, HYD.out⟩ (fun hS hcl => ?_)
            clear hK K hS
            try simp only [Act.put, List.setIfInBounds_toArray, List.set_cons_zero, List.set_cons_succ]
            have hne : W0.heap.size ≠ W1.heap.size := by omega
            replace RX := Lib.hid (RX.out.mono (S' := fun b => b ≠ W0.heap.size ∧ b ≠ W1.heap.size) fun b h1 _ => by omega)
            replace RY := Lib.hid (RY.out.mono (S' := fun b => b ≠ W0.heap.size ∧ b ≠ W1.heap.size) fun b h1 _ => by omega)
            refine anyT_last (k := 6) rfl (by kernel_rfl) (by kernel_rfl) hcl ?_
            intro K hK
            clear hcl
            rw [if_pos (by rfl)]
            refine wp_store14 _ _ rfl W0.heap.size rfl rfl H5.out ⟨rfl, rfl, rfl, rfl, rfl, rfl, rfl, rfl, rfl, rfl, rfl, rfl, rfl, rfl⟩ ?_
            intro V6 e1 e4 e3
            replace HXD := Lib.hid ((e4 w.heap.size (by omega)).trans HXD.out)
            replace HYD := Lib.hid ((e4 (w.heap.size + 1) (by omega)).trans HYD.out)
            replace H6 := Lib.hid ((e4 W1.heap.size (by omega)).trans H6.out)
            replace H5 := Lib.hid e1
            replace RX := Lib.hid (RX.out.out fun c hc => e4 c (by omega))
            replace RY := Lib.hid (RY.out.out fun c hc => e4 c (by omega))
            replace HBD := Lib.hid (HBD.out.trans (e3.mono (by omega)))
            clear e1 e3 e4
            refine hK.out _ _ (fun hcl => ?_)
            clear hK K
            try simp only [Act.put, List.setIfInBounds_toArray, List.set_cons_zero, List.set_cons_succ]
            refine anyT_last (k := 7) rfl (by kernel_rfl) (by kernel_rfl) hcl ?_
            intro K hK
            clear hcl
            rw [if_pos (by rfl)]
            refine wp_store14 _ _ rfl W1.heap.size rfl rfl H6.out ⟨rfl, rfl, rfl, rfl, rfl, rfl, rfl, rfl, rfl, rfl, rfl, rfl, rfl, rfl⟩ ?_
            intro V7 e1 e4 e3
            replace HXD := Lib.hid ((e4 w.heap.size (by omega)).trans HXD.out)
            replace HYD := Lib.hid ((e4 (w.heap.size + 1) (by omega)).trans HYD.out)
            replace H5 := Lib.hid ((e4 W0.heap.size (by omega)).trans H5.out)
            replace H6 := Lib.hid e1
            replace RX := Lib.hid (RX.out.out fun c hc => e4 c (by omega))
            replace RY := Lib.hid (RY.out.out fun c hc => e4 c (by omega))
            replace HBD := Lib.hid (HBD.out.trans (e3.mono (by omega)))
            clear e1 e3 e4
            refine hK.out _ _ (fun hcl => ?_)
            clear hK K
            try simp only [Act.put, List.setIfInBounds_toArray, List.set_cons_zero, List.set_cons_succ]
            refine anyT_done (by kernel_rfl) ?_ _
            go_wp2_with fail
            go_meet
            exact ⟨⟨⟨bC, bc1⟩, ⟨bR, bc2⟩, ⟨bS, bc3⟩, ⟨bI, bc4⟩, ⟨bO, bc5⟩, ⟨bW, bc6⟩, ⟨bG, bc7⟩, ⟨bD, bc8⟩⟩, ⟨⟨eC, ec1⟩, ⟨eR, ec2⟩, ⟨eS, ec3⟩, ⟨eI, ec4⟩, ⟨eO, ec5⟩, ⟨eW, ec6⟩, ⟨eG, ec7⟩, ⟨eD, ec8⟩⟩, W0.heap.size, W1.heap.size, rfl, rfl, H5.out, H6.out, RX.out.any, RY.out.any, HXD.out, HYD.out, HBD.out⟩
    · intro K hK
      clear hcl
      go_simp
      replace HXD := Lib.hid (heap_on HXD.out (.cells #[.int .i64 0, .string ⟨#[]⟩, .slice none 0 0, .string ⟨#[]⟩, .string ⟨#[]⟩, .slice none 0 0, .slice none 0 0, .slice none 0 0, .string ⟨#[]⟩, .slice none 0 0, .slice none 0 0, .slice none 0 0, .slice none 0 0, .int .i64 0] 28))
      replace HYD := Lib.hid (heap_on HYD.out (.cells #[.int .i64 0, .string ⟨#[]⟩, .slice none 0 0, .string ⟨#[]⟩, .string ⟨#[]⟩, .slice none 0 0, .slice none 0 0, .slice none 0 0, .string ⟨#[]⟩, .slice none 0 0, .slice none 0 0, .slice none 0 0, .slice none 0 0, .int .i64 0] 28))
      have H6 := Lib.hid (heap_alloc_new W0 (.cells #[.int .i64 0, .string ⟨#[]⟩, .slice none 0 0, .string ⟨#[]⟩, .string ⟨#[]⟩, .slice none 0 0, .slice none 0 0, .slice none 0 0, .string ⟨#[]⟩, .slice none 0 0, .slice none 0 0, .slice none 0 0, .slice none 0 0, .int .i64 0] 28))
      replace HBD := Lib.hid (HBD.out.alloc HBD.out.size (.cells #[.int .i64 0, .string ⟨#[]⟩, .slice none 0 0, .string ⟨#[]⟩, .string ⟨#[]⟩, .slice none 0 0, .slice none 0 0, .slice none 0 0, .string ⟨#[]⟩, .slice none 0 0, .slice none 0 0, .slice none 0 0, .slice none 0 0, .int .i64 0] 28))
      have hz1 : W0.heap.size < (W0.alloc (.cells #[.int .i64 0, .string ⟨#[]⟩, .slice none 0 0, .string ⟨#[]⟩, .string ⟨#[]⟩, .slice none 0 0, .slice none 0 0, .slice none 0 0, .string ⟨#[]⟩, .slice none 0 0, .slice none 0 0, .slice none 0 0, .slice none 0 0, .int .i64 0] 28)).heap.size := by simp
      generalize (W0.alloc (.cells #[.int .i64 0, .string ⟨#[]⟩, .slice none 0 0, .string ⟨#[]⟩, .string ⟨#[]⟩, .slice none 0 0, .slice none 0 0, .slice none 0 0, .string ⟨#[]⟩, .slice none 0 0, .slice none 0 0, .slice none 0 0, .slice none 0 0, .int .i64 0] 28)) = W1 at *
      refine hK.out _ _ ⟨HXD.out, HYD.out⟩ (fun hS hcl => ?_)
      clear hK K hS
      try simp only [Act.put, List.setIfInBounds_toArray, List.set_cons_zero, List.set_cons_succ]
      refine anyT_all (rs := [1, 4]) (by kernel_rfl) rfl hcl ⟨⟨_, rfl, ?_⟩, ⟨_, rfl, ?_⟩, trivial⟩
      · intro K hK
        clear hcl
        go_simp
        go_at_call 11
        refine (HCX.out _ HBD.out).mono ?_
        rintro e W2 ⟨⟨⟨bC, bc1⟩, ⟨bR, bc2⟩, ⟨bS, bc3⟩, ⟨bI, bc4⟩, ⟨bO, bc5⟩, ⟨bW, bc6⟩, ⟨bG, bc7⟩, ⟨bD, bc8⟩⟩, rfl, hrd, hb⟩
        replace HXD := Lib.hid ((hb.block _ (heap_lt HXD.out)).trans HXD.out)
        replace HYD := Lib.hid ((hb.block _ (heap_lt HYD.out)).trans HYD.out)
        replace H6 := Lib.hid ((hb.block _ (heap_lt H6.out)).trans H6.out)
        have RX := Lib.hid (RdSt.mono (S' := fun b => W1.heap.size ≤ b ∧ b < W2.heap.size) hrd fun b h1 h2 => ⟨h1, h2⟩)
        replace HBD := Lib.hid (below_call hb HBD.out HBD.out.size)
        have hz2 := hb.size
        clear hrd hb
        refine hK.out _ _ ⟨HXD.out, HYD.out⟩ (fun hS hcl => ?_)
        clear hK K hS
        try simp only [Act.put, List.setIfInBounds_toArray, List.set_cons_zero, List.set_cons_succ]
        refine anyT_all (rs := [3, 4]) (by kernel_rfl) rfl hcl ⟨⟨_, rfl, ?_⟩, ⟨_, rfl, ?_⟩, trivial⟩
        · intro K hK
          clear hcl
          go_simp
          go_at_call 11
          refine (HCY.out _ HBD.out).mono ?_
          rintro e W3 ⟨⟨⟨eC, ec1⟩, ⟨eR, ec2⟩, ⟨eS, ec3⟩, ⟨eI, ec4⟩, ⟨eO, ec5⟩, ⟨eW, ec6⟩, ⟨eG, ec7⟩, ⟨eD, ec8⟩⟩, rfl, hrd, hb⟩
          replace HXD := Lib.hid ((hb.block _ (heap_lt HXD.out)).trans HXD.out)
          replace HYD := Lib.hid ((hb.block _ (heap_lt HYD.out)).trans HYD.out)
          replace H6 := Lib.hid ((hb.block _ (heap_lt H6.out)).trans H6.out)
          replace RX := Lib.hid (RX.out.below hb)
          have RY := Lib.hid (RdSt.mono (S' := fun b => W2.heap.size ≤ b ∧ b < W3.heap.size) hrd fun b h1 h2 => ⟨h1, h2⟩)
          replace HBD := Lib.hid (below_call hb HBD.out HBD.out.size)
          have hz3 := hb.size
          clear hrd hb
          refine hK.out _ _ ⟨HXD.out, HYD.out⟩ (fun hS hcl => ?_)
          clear hK K hS
          try simp only [Act.put, List.setIfInBounds_toArray, List.set_cons_zero, List.set_cons_succ]
          refine anyT_all (rs := [4]) (by kernel_rfl) rfl hcl ⟨⟨_, rfl, ?_⟩, trivial⟩
          · intro K hK
            clear hcl
            go_simp
            replace HXD := Lib.hid (heap_on HXD.out (.cells #[.int .i64 0, .string ⟨#[]⟩, .slice none 0 0, .string ⟨#[]⟩, .string ⟨#[]⟩, .slice none 0 0, .slice none 0 0, .slice none 0 0, .string ⟨#[]⟩, .slice none 0 0, .slice none 0 0, .slice none 0 0, .slice none 0 0, .int .i64 0] 28))
            replace HYD := Lib.hid (heap_on HYD.out (.cells #[.int .i64 0, .string ⟨#[]⟩, .slice none 0 0, .string ⟨#[]⟩, .string ⟨#[]⟩, .slice none 0 0, .slice none 0 0, .slice none 0 0, .string ⟨#[]⟩, .slice none 0 0, .slice none 0 0, .slice none 0 0, .slice none 0 0, .int .i64 0] 28))
            replace H6 := Lib.hid (heap_on H6.out (.cells #[.int .i64 0, .string ⟨#[]⟩, .slice none 0 0, .string ⟨#[]⟩, .string ⟨#[]⟩, .slice none 0 0, .slice none 0 0, .slice none 0 0, .string ⟨#[]⟩, .slice none 0 0, .slice none 0 0, .slice none 0 0, .slice none 0 0, .int .i64 0] 28))
            replace RX := Lib.hid (RX.out.below (below1 _ (.cells #[.int .i64 0, .string ⟨#[]⟩, .slice none 0 0, .string ⟨#[]⟩, .string ⟨#[]⟩, .slice none 0 0, .slice none 0 0, .slice none 0 0, .string ⟨#[]⟩, .slice none 0 0, .slice none 0 0, .slice none 0 0, .slice none 0 0, .int .i64 0] 28)))
            replace RY := Lib.hid (RY.out.below (below1 _ (.cells #[.int .i64 0, .string ⟨#[]⟩, .slice none 0 0, .string ⟨#[]⟩, .string ⟨#[]⟩, .slice none 0 0, .slice none 0 0, .slice none 0 0, .string ⟨#[]⟩, .slice none 0 0, .slice none 0 0, .slice none 0 0, .slice none 0 0, .int .i64 0] 28)))
            have H5 := Lib.hid (heap_alloc_new W3 (.cells #[.int .i64 0, .string ⟨#[]⟩, .slice none 0 0, .string ⟨#[]⟩, .string ⟨#[]⟩, .slice none 0 0, .slice none 0 0, .slice none 0 0, .string ⟨#[]⟩, .slice none 0 0, .slice none 0 0, .slice none 0 0, .slice none 0 0, .int .i64 0] 28))
            replace HBD := Lib.hid (HBD.out.alloc HBD.out.size (.cells #[.int .i64 0, .string ⟨#[]⟩, .slice none 0 0, .string ⟨#[]⟩, .string ⟨#[]⟩, .slice none 0 0, .slice none 0 0, .slice none 0 0, .string ⟨#[]⟩, .slice none 0 0, .slice none 0 0, .slice none 0 0, .slice none 0 0, .int .i64 0] 28))
            have hz4 : W3.heap.size < (W3.alloc (.cells #[.int .i64 0, .string ⟨#[]⟩, .slice none 0 0, .string ⟨#[]⟩, .string ⟨#[]⟩, .slice none 0 0, .slice none 0 0, .slice none 0 0, .string ⟨#[]⟩, .slice none 0 0, .slice none 0 0, .slice none 0 0, .slice none 0 0, .int .i64 0] 28)).heap.size := by simp
            generalize (W3.alloc (.cells #[.int .i64 0, .string ⟨#[]⟩, .slice none 0 0, .string ⟨#[]⟩, .string ⟨#[]⟩, .slice none 0 0, .slice none 0 0, .slice none 0 0, .string ⟨#[]⟩, .slice none 0 0, .slice none 0 0, .slice none 0 0, .slice none 0 0, .int .i64 0] 28)) = W4 at *
            refine hK.out _ _ ⟨HXD.out, HYD.out⟩ (fun hS hcl => ?_)
            clear hK K hS
            try simp only [Act.put, List.setIfInBounds_toArray, List.set_cons_zero, List.set_cons_succ]
            have hne : W3.heap.size ≠ W0.heap.size := by omega
            replace RX := Lib.hid (RX.out.mono (S' := fun b => b ≠ W3.heap.size ∧ b ≠ W0.heap.size) fun b h1 _ => by omega)
            replace RY := Lib.hid (RY.out.mono (S' := fun b => b ≠ W3.heap.size ∧ b ≠ W0.heap.size) fun b h1 _ => by omega)
            refine anyT_last (k := 6) rfl (by kernel_rfl) (by kernel_rfl) hcl ?_
            intro K hK
            clear hcl
            rw [if_pos (by rfl)]
            refine wp_store14 _ _ rfl W3.heap.size rfl rfl H5.out ⟨rfl, rfl, rfl, rfl, rfl, rfl, rfl, rfl, rfl, rfl, rfl, rfl, rfl, rfl⟩ ?_
            intro V6 e1 e4 e3
            replace HXD := Lib.hid ((e4 w.heap.size (by omega)).trans HXD.out)
            replace HYD := Lib.hid ((e4 (w.heap.size + 1) (by omega)).trans HYD.out)
            replace H6 := Lib.hid ((e4 W0.heap.size (by omega)).trans H6.out)
            replace H5 := Lib.hid e1
            replace RX := Lib.hid (RX.out.out fun c hc => e4 c (by omega))
            replace RY := Lib.hid (RY.out.out fun c hc => e4 c (by omega))
            replace HBD := Lib.hid (HBD.out.trans (e3.mono (by omega)))
            clear e1 e3 e4
            refine hK.out _ _ (fun hcl => ?_)
            clear hK K
            try simp only [Act.put, List.setIfInBounds_toArray, List.set_cons_zero, List.set_cons_succ]
            refine anyT_last (k := 7) rfl (by kernel_rfl) (by kernel_rfl) hcl ?_
            intro K hK
            clear hcl
            rw [if_pos (by rfl)]
            refine wp_store14 _ _ rfl W0.heap.size rfl rfl H6.out ⟨rfl, rfl, rfl, rfl, rfl, rfl, rfl, rfl, rfl, rfl, rfl, rfl, rfl, rfl⟩ ?_
            intro V7 e1 e4 e3
            replace HXD := Lib.hid ((e4 w.heap.size (by omega)).trans HXD.out)
            replace HYD := Lib.hid ((e4 (w.heap.size + 1) (by omega)).trans HYD.out)
            replace H5 := Lib.hid ((e4 W3.heap.size (by omega)).trans H5.out)
            replace H6 := Lib.hid e1
            replace RX := Lib.hid (RX.out.out fun c hc => e4 c (by omega))
            replace RY := Lib.hid (RY.out.out fun c hc => e4 c (by omega))
            replace HBD := Lib.hid (HBD.out.trans (e3.mono (by omega)))
            clear e1 e3 e4
            refine hK.out _ _ (fun hcl => ?_)
            clear hK K
            try simp only [Act.put, List.setIfInBounds_toArray, List.set_cons_zero, List.set_cons_succ]
            refine anyT_done (by kernel_rfl) ?_ _
            go_wp2_with fail
            go_meet
            exact ⟨⟨⟨bC, bc1⟩, ⟨bR, bc2⟩, ⟨bS, bc3⟩, ⟨bI, bc4⟩, ⟨bO, bc5⟩, ⟨bW, bc6⟩, ⟨bG, bc7⟩, ⟨bD, bc8⟩⟩, ⟨⟨eC, ec1⟩, ⟨eR, ec2⟩, ⟨eS, ec3⟩, ⟨eI, ec4⟩, ⟨eO, ec5⟩, ⟨eW, ec6⟩, ⟨eG, ec7⟩, ⟨eD, ec8⟩⟩, W3.heap.size, W0.heap.size, rfl, rfl, H5.out, H6.out, RX.out.any, RY.out.any, HXD.out, HYD.out, HBD.out⟩
        · intro K hK
          clear hcl
          go_simp
          replace HXD := Lib.hid (heap_on HXD.out (.cells #[.int .i64 0, .string ⟨#[]⟩, .slice none 0 0, .string ⟨#[]⟩, .string ⟨#[]⟩, .slice none 0 0, .slice none 0 0, .slice none 0 0, .string ⟨#[]⟩, .slice none 0 0, .slice none 0 0, .slice none 0 0, .slice none 0 0, .int .i64 0] 28))
          replace HYD := Lib.hid (heap_on HYD.out (.cells #[.int .i64 0, .string ⟨#[]⟩, .slice none 0 0, .string ⟨#[]⟩, .string ⟨#[]⟩, .slice none 0 0, .slice none 0 0, .slice none 0 0, .string ⟨#[]⟩, .slice none 0 0, .slice none 0 0, .slice none 0 0, .slice none 0 0, .int .i64 0] 28))
          replace H6 := Lib.hid (heap_on H6.out (.cells #[.int .i64 0, .string ⟨#[]⟩, .slice none 0 0, .string ⟨#[]⟩, .string ⟨#[]⟩, .slice none 0 0, .slice none 0 0, .slice none 0 0, .string ⟨#[]⟩, .slice none 0 0, .slice none 0 0, .slice none 0 0, .slice none 0 0, .int .i64 0] 28))
          replace RX := Lib.hid (RX.out.below (below1 _ (.cells #[.int .i64 0, .string ⟨#[]⟩, .slice none 0 0, .string ⟨#[]⟩, .string ⟨#[]⟩, .slice none 0 0, .slice none 0 0, .slice none 0 0, .string ⟨#[]⟩, .slice none 0 0, .slice none 0 0, .slice none 0 0, .slice none 0 0, .int .i64 0] 28)))
          have H5 := Lib.hid (heap_alloc_new W2 (.cells #[.int .i64 0, .string ⟨#[]⟩, .slice none 0 0, .string ⟨#[]⟩, .string ⟨#[]⟩, .slice none 0 0, .slice none 0 0, .slice none 0 0, .string ⟨#[]⟩, .slice none 0 0, .slice none 0 0, .slice none 0 0, .slice none 0 0, .int .i64 0] 28))
          replace HBD := Lib.hid (HBD.out.alloc HBD.out.size (.cells #[.int .i64 0, .string ⟨#[]⟩, .slice none 0 0, .string ⟨#[]⟩, .string ⟨#[]⟩, .slice none 0 0, .slice none 0 0, .slice none 0 0, .string ⟨#[]⟩, .slice none 0 0, .slice none 0 0, .slice none 0 0, .slice none 0 0, .int .i64 0] 28))
          have hz3 : W2.heap.size < (W2.alloc (.cells #[.int .i64 0, .string ⟨#[]⟩, .slice none 0 0, .string ⟨#[]⟩, .string ⟨#[]⟩, .slice none 0 0, .slice none 0 0, .slice none 0 0, .string ⟨#[]⟩, .slice none 0 0, .slice none 0 0, .slice none 0 0, .slice none 0 0, .int .i64 0] 28)).heap.size := by simp
          generalize (W2.alloc (.cells #[.int .i64 0, .string ⟨#[]⟩, .slice none 0 0, .string ⟨#[]⟩, .string ⟨#[]⟩, .slice none 0 0, .slice none 0 0, .slice none 0 0, .string ⟨#[]⟩, .slice none 0 0, .slice none 0 0, .slice none 0 0, .slice none 0 0, .int .i64 0] 28)) = W3 at *
          refine hK.out _ _ ⟨HXD.out, HYD.out⟩ (fun hS hcl => ?_)
          clear hK K hS
          try simp only [Act.put, List.setIfInBounds_toArray, List.set_cons_zero, List.set_cons_succ]
          refine anyT_all (rs := [3]) (by kernel_rfl) rfl hcl ⟨⟨_, rfl, ?_⟩, trivial⟩
          · intro K hK
            clear hcl
            go_simp
            go_at_call 11
            refine (HCY.out _ HBD.out).mono ?_
            rintro e W4 ⟨⟨⟨eC, ec1⟩, ⟨eR, ec2⟩, ⟨eS, ec3⟩, ⟨eI, ec4⟩, ⟨eO, ec5⟩, ⟨eW, ec6⟩, ⟨eG, ec7⟩, ⟨eD, ec8⟩⟩, rfl, hrd, hb⟩
            replace HXD := Lib.hid ((hb.block _ (heap_lt HXD.out)).trans HXD.out)
            replace HYD := Lib.hid ((hb.block _ (heap_lt HYD.out)).trans HYD.out)
            replace H5 := Lib.hid ((hb.block _ (heap_lt H5.out)).trans H5.out)
            replace H6 := Lib.hid ((hb.block _ (heap_lt H6.out)).trans H6.out)
            replace RX := Lib.hid (RX.out.below hb)
            have RY := Lib.hid (RdSt.mono (S' := fun b => W3.heap.size ≤ b ∧ b < W4.heap.size) hrd fun b h1 h2 => ⟨h1, h2⟩)
            replace HBD := Lib.hid (below_call hb HBD.out HBD.out.size)
            have hz4 := hb.size
            clear hrd hb
            refine hK.out _ _ ⟨HXD.out, HYD.out⟩ (fun hS hcl => ?_)
            clear hK K hS
            try simp only [Act.put, List.setIfInBounds_toArray, List.set_cons_zero, List.set_cons_succ]
            have hne : W2.heap.size ≠ W0.heap.size := by omega
            replace RX := Lib.hid (RX.out.mono (S' := fun b => b ≠ W2.heap.size ∧ b ≠ W0.heap.size) fun b h1 _ => by omega)
            replace RY := Lib.hid (RY.out.mono (S' := fun b => b ≠ W2.heap.size ∧ b ≠ W0.heap.size) fun b h1 _ => by omega)
            refine anyT_last (k := 6) rfl (by kernel_rfl) (by kernel_rfl) hcl ?_
            intro K hK
            clear hcl
            rw [if_pos (by rfl)]
            refine wp_store14 _ _ rfl W2.heap.size rfl rfl H5.out ⟨rfl, rfl, rfl, rfl, rfl, rfl, rfl, rfl, rfl, rfl, rfl, rfl, rfl, rfl⟩ ?_
            intro V6 e1 e4 e3
            replace HXD := Lib.hid ((e4 w.heap.size (by omega)).trans HXD.out)
            replace HYD := Lib.hid ((e4 (w.heap.size + 1) (by omega)).trans HYD.out)
            replace H6 := Lib.hid ((e4 W0.heap.size (by omega)).trans H6.out)
            replace H5 := Lib.hid e1
            replace RX := Lib.hid (RX.out.out fun c hc => e4 c (by omega))
            replace RY := Lib.hid (RY.out.out fun c hc => e4 c (by omega))
            replace HBD := Lib.hid (HBD.out.trans (e3.mono (by omega)))
            clear e1 e3 e4
            refine hK.out _ _ (fun hcl => ?_)
            clear hK K
            try simp only [Act.put, List.setIfInBounds_toArray, List.set_cons_zero, List.set_cons_succ]
            refine anyT_last (k := 7) rfl (by kernel_rfl) (by kernel_rfl) hcl ?_
            intro K hK
            clear hcl
            rw [if_pos (by rfl)]
            refine wp_store14 _ _ rfl W0.heap.size rfl rfl H6.out ⟨rfl, rfl, rfl, rfl, rfl, rfl, rfl, rfl, rfl, rfl, rfl, rfl, rfl, rfl⟩ ?_
            intro V7 e1 e4 e3
            replace HXD := Lib.hid ((e4 w.heap.size (by omega)).trans HXD.out)
            replace HYD := Lib.hid ((e4 (w.heap.size + 1) (by omega)).trans HYD.out)
            replace H5 := Lib.hid ((e4 W2.heap.size (by omega)).trans H5.out)
            replace H6 := Lib.hid e1
            replace RX := Lib.hid (RX.out.out fun c hc => e4 c (by omega))
            replace RY := Lib.hid (RY.out.out fun c hc => e4 c (by omega))
            replace HBD := Lib.hid (HBD.out.trans (e3.mono (by omega)))
            clear e1 e3 e4
            refine hK.out _ _ (fun hcl => ?_)
            clear hK K
            try simp only [Act.put, List.setIfInBounds_toArray, List.set_cons_zero, List.set_cons_succ]
            refine anyT_done (by kernel_rfl) ?_ _
            go_wp2_with fail
            go_meet
            exact ⟨⟨⟨bC, bc1⟩, ⟨bR, bc2⟩, ⟨bS, bc3⟩, ⟨bI, bc4⟩, ⟨bO, bc5⟩, ⟨bW, bc6⟩, ⟨bG, bc7⟩, ⟨bD, bc8⟩⟩, ⟨⟨eC, ec1⟩, ⟨eR, ec2⟩, ⟨eS, ec3⟩, ⟨eI, ec4⟩, ⟨eO, ec5⟩, ⟨eW, ec6⟩, ⟨eG, ec7⟩, ⟨eD, ec8⟩⟩, W2.heap.size, W0.heap.size, rfl, rfl, H5.out, H6.out, RX.out.any, RY.out.any, HXD.out, HYD.out, HBD.out⟩
      · intro K hK
        clear hcl
        go_simp
        replace HXD := Lib.hid (heap_on HXD.out (.cells #[.int .i64 0, .string ⟨#[]⟩, .slice none 0 0, .string ⟨#[]⟩, .string ⟨#[]⟩, .slice none 0 0, .slice none 0 0, .slice none 0 0, .string ⟨#[]⟩, .slice none 0 0, .slice none 0 0, .slice none 0 0, .slice none 0 0, .int .i64 0] 28))
        replace HYD := Lib.hid (heap_on HYD.out (.cells #[.int .i64 0, .string ⟨#[]⟩, .slice none 0 0, .string ⟨#[]⟩, .string ⟨#[]⟩, .slice none 0 0, .slice none 0 0, .slice none 0 0, .string ⟨#[]⟩, .slice none 0 0, .slice none 0 0, .slice none 0 0, .slice none 0 0, .int .i64 0] 28))
        replace H6 := Lib.hid (heap_on H6.out (.cells #[.int .i64 0, .string ⟨#[]⟩, .slice none 0 0, .string ⟨#[]⟩, .string ⟨#[]⟩, .slice none 0 0, .slice none 0 0, .slice none 0 0, .string ⟨#[]⟩, .slice none 0 0, .slice none 0 0, .slice none 0 0, .slice none 0 0, .int .i64 0] 28))
        have H5 := Lib.hid (heap_alloc_new W1 (.cells #[.int .i64 0, .string ⟨#[]⟩, .slice none 0 0, .string ⟨#[]⟩, .string ⟨#[]⟩, .slice none 0 0, .slice none 0 0, .slice none 0 0, .string ⟨#[]⟩, .slice none 0 0, .slice none 0 0, .slice none 0 0, .slice none 0 0, .int .i64 0] 28))
        replace HBD := Lib.hid (HBD.out.alloc HBD.out.size (.cells #[.int .i64 0, .string ⟨#[]⟩, .slice none 0 0, .string ⟨#[]⟩, .string ⟨#[]⟩, .slice none 0 0, .slice none 0 0, .slice none 0 0, .string ⟨#[]⟩, .slice none 0 0, .slice none 0 0, .slice none 0 0, .slice none 0 0, .int .i64 0] 28))
        have hz2 : W1.heap.size < (W1.alloc (.cells #[.int .i64 0, .string ⟨#[]⟩, .slice none 0 0, .string ⟨#[]⟩, .string ⟨#[]⟩, .slice none 0 0, .slice none 0 0, .slice none 0 0, .string ⟨#[]⟩, .slice none 0 0, .slice none 0 0, .slice none 0 0, .slice none 0 0, .int .i64 0] 28)).heap.size := by simp
        generalize (W1.alloc (.cells #[.int .i64 0, .string ⟨#[]⟩, .slice none 0 0, .string ⟨#[]⟩, .string ⟨#[]⟩, .slice none 0 0, .slice none 0 0, .slice none 0 0, .string ⟨#[]⟩, .slice none 0 0, .slice none 0 0, .slice none 0 0, .slice none 0 0, .int .i64 0] 28)) = W2 at *
        refine hK.out _ _ ⟨HXD.out, HYD.out⟩ (fun hS hcl => ?_)
        clear hK K hS
        try simp only [Act.put, List.setIfInBounds_toArray, List.set_cons_zero, List.set_cons_succ]
        refine anyT_all (rs := [1]) (by kernel_rfl) rfl hcl ⟨⟨_, rfl, ?_⟩, trivial⟩
        · intro K hK
          clear hcl
          go_simp
          go_at_call 11
          refine (HCX.out _ HBD.out).mono ?_
          rintro e W3 ⟨⟨⟨bC, bc1⟩, ⟨bR, bc2⟩, ⟨bS, bc3⟩, ⟨bI, bc4⟩, ⟨bO, bc5⟩, ⟨bW, bc6⟩, ⟨bG, bc7⟩, ⟨bD, bc8⟩⟩, rfl, hrd, hb⟩
          replace HXD := Lib.hid ((hb.block _ (heap_lt HXD.out)).trans HXD.out)
          replace HYD := Lib.hid ((hb.block _ (heap_lt HYD.out)).trans HYD.out)
          replace H5 := Lib.hid ((hb.block _ (heap_lt H5.out)).trans H5.out)
          replace H6 := Lib.hid ((hb.block _ (heap_lt H6.out)).trans H6.out)
          have RX := Lib.hid (RdSt.mono (S' := fun b => W2.heap.size ≤ b ∧ b < W3.heap.size) hrd fun b h1 h2 => ⟨h1, h2⟩)
          replace HBD := Lib.hid (below_call hb HBD.out HBD.out.size)
          have hz3 := hb.size
          clear hrd hb
          refine hK.out _ _ ⟨HXD.out, HYD.out⟩ (fun hS hcl => ?_)
          clear hK K hS
          try simp only [Act.put, List.setIfInBounds_toArray, List.set_cons_zero, List.set_cons_succ]
          refine anyT_all (rs := [3]) (by kernel_rfl) rfl hcl ⟨⟨_, rfl, ?_⟩, trivial⟩
          · intro K hK
            clear hcl
            go_simp
            go_at_call 11
            refine (HCY.out _ HBD.out).mono ?_
            rintro e W4 ⟨⟨⟨eC, ec1⟩, ⟨eR, ec2⟩, ⟨eS, ec3⟩, ⟨eI, ec4⟩, ⟨eO, ec5⟩, ⟨eW, ec6⟩, ⟨eG, ec7⟩, ⟨eD, ec8⟩⟩, rfl, hrd, hb⟩
            replace HXD := Lib.hid ((hb.block _ (heap_lt HXD.out)).trans HXD.out)
            replace HYD := Lib.hid ((hb.block _ (heap_lt HYD.out)).trans HYD.out)
            replace H5 := Lib.hid ((hb.block _ (heap_lt H5.out)).trans H5.out)
            replace H6 := Lib.hid ((hb.block _ (heap_lt H6.out)).trans H6.out)
            replace RX := Lib.hid (RX.out.below hb)
            have RY := Lib.hid (RdSt.mono (S' := fun b => W3.heap.size ≤ b ∧ b < W4.heap.size) hrd fun b h1 h2 => ⟨h1, h2⟩)
            replace HBD := Lib.hid (below_call hb HBD.out HBD.out.size)
            have hz4 := hb.size
            clear hrd hb
            refine hK.out _ _ ⟨HXD.out, HYD.out⟩ (fun hS hcl => ?_)
            clear hK K hS
            try simp only [Act.put, List.setIfInBounds_toArray, List.set_cons_zero, List.set_cons_succ]
            have hne : W1.heap.size ≠ W0.heap.size := by omega
            replace RX := Lib.hid (RX.out.mono (S' := fun b => b ≠ W1.heap.size ∧ b ≠ W0.heap.size) fun b h1 _ => by omega)
            replace RY := Lib.hid (RY.out.mono (S' := fun b => b ≠ W1.heap.size ∧ b ≠ W0.heap.size) fun b h1 _ => by omega)
            refine anyT_last (k := 6) rfl (by kernel_rfl) (by kernel_rfl) hcl ?_
            intro K hK
            clear hcl
            rw [if_pos (by rfl)]
            refine wp_store14 _ _ rfl W1.heap.size rfl rfl H5.out ⟨rfl, rfl, rfl, rfl, rfl, rfl, rfl, rfl, rfl, rfl, rfl, rfl, rfl, rfl⟩ ?_
            intro V6 e1 e4 e3
            replace HXD := Lib.hid ((e4 w.heap.size (by omega)).trans HXD.out)
            replace HYD := Lib.hid ((e4 (w.heap.size + 1) (by omega)).trans HYD.out)
            replace H6 := Lib.hid ((e4 W0.heap.size (by omega)).trans H6.out)
            replace H5 := Lib.hid e1
            replace RX := Lib.hid (RX.out.out fun c hc => e4 c (by omega))
            replace RY := Lib.hid (RY.out.out fun c hc => e4 c (by omega))
            replace HBD := Lib.hid (HBD.out.trans (e3.mono (by omega)))
            clear e1 e3 e4
            refine hK.out _ _ (fun hcl => ?_)
            clear hK K
            try simp only [Act.put, List.setIfInBounds_toArray, List.set_cons_zero, List.set_cons_succ]
            refine anyT_last (k := 7) rfl (by kernel_rfl) (by kernel_rfl) hcl ?_
            intro K hK
            clear hcl
            rw [if_pos (by rfl)]
            refine wp_store14 _ _ rfl W0.heap.size rfl rfl H6.out ⟨rfl, rfl, rfl, rfl, rfl, rfl, rfl, rfl, rfl, rfl, rfl, rfl, rfl, rfl⟩ ?_
            intro V7 e1 e4 e3
            replace HXD := Lib.hid ((e4 w.heap.size (by omega)).trans HXD.out)
            replace HYD := Lib.hid ((e4 (w.heap.size + 1) (by omega)).trans HYD.out)
            replace H5 := Lib.hid ((e4 W1.heap.size (by omega)).trans H5.out)
            replace H6 := Lib.hid e1
            replace RX := Lib.hid (RX.out.out fun c hc => e4 c (by omega))
            replace RY := Lib.hid (RY.out.out fun c hc => e4 c (by omega))
            replace HBD := Lib.hid (HBD.out.trans (e3.mono (by omega)))
            clear e1 e3 e4
            refine hK.out _ _ (fun hcl => ?_)
            clear hK K
            try simp only [Act.put, List.setIfInBounds_toArray, List.set_cons_zero, List.set_cons_succ]
            refine anyT_done (by kernel_rfl) ?_ _
            go_wp2_with fail
            go_meet
            exact ⟨⟨⟨bC, bc1⟩, ⟨bR, bc2⟩, ⟨bS, bc3⟩, ⟨bI, bc4⟩, ⟨bO, bc5⟩, ⟨bW, bc6⟩, ⟨bG, bc7⟩, ⟨bD, bc8⟩⟩, ⟨⟨eC, ec1⟩, ⟨eR, ec2⟩, ⟨eS, ec3⟩, ⟨eI, ec4⟩, ⟨eO, ec5⟩, ⟨eW, ec6⟩, ⟨eG, ec7⟩, ⟨eD, ec8⟩⟩, W1.heap.size, W0.heap.size, rfl, rfl, H5.out, H6.out, RX.out.any, RY.out.any, HXD.out, HYD.out, HBD.out⟩
  case rest =>
    obtain ⟨⟨⟨bC, bc1⟩, ⟨bR, bc2⟩, ⟨bS, bc3⟩, ⟨bI, bc4⟩, ⟨bO, bc5⟩, ⟨bW, bc6⟩, ⟨bG, bc7⟩, ⟨bD, bc8⟩⟩, ⟨⟨eC, ec1⟩, ⟨eR, ec2⟩, ⟨eS, ec3⟩, ⟨eI, ec4⟩, ⟨eO, ec5⟩, ⟨eW, ec6⟩, ⟨eG, ec7⟩, ⟨eD, ec8⟩⟩, b5, b6, rfl, rfl, h5, h6, rx, ry, hx, hy, hb⟩ := hcut
    clear HX HY HB hz0 HCY
    have HXD := Lib.hid hx
    have HYD := Lib.hid hy
    have H5 := Lib.hid h5
    have H6 := Lib.hid h6
    have RX := Lib.hid rx
    have RY := Lib.hid ry
    have HBD := Lib.hid hb
    clear hx hy h5 h6 rx ry hb
    unfold St.cs at H5 H6
    dsimp only at H5 H6
    skip
    obtain ⟨x0, x1, x2, x3, x4, x5, x6, x7, x8, x9, x10, x11, x12, x13⟩ := cells14 HXD.out
    go_upto_region 3 with (go_at_call 16; refine (HK.out _ HBD.out).mono ?_; rintro e v1 ⟨rfl, hb⟩; replace HXD := Lib.hid ((hb.block _ (heap_lt HXD.out)).trans HXD.out); replace HYD := Lib.hid ((hb.block _ (heap_lt HYD.out)).trans HYD.out); replace H5 := Lib.hid ((hb.block _ (heap_lt H5.out)).trans H5.out); replace H6 := Lib.hid ((hb.block _ (heap_lt H6.out)).trans H6.out); replace RX := Lib.hid (RX.out.below hb); replace RY := Lib.hid (RY.out.below hb); replace HBD := Lib.hid (below_call hb HBD.out HBD.out.size); clear hb; clear x0 x1 x2 x3 x4 x5 x6 x7 x8 x9 x10 x11 x12 x13)
    generalize hQE : (EX == 0) = QE at *
    clear hQE
    obtain rfl : QX = QE := HE.out
    clear HE
    have hQ1 : (QQ == QQ) = true := by simp
    have hQ2 : (QX == QX) = true := by simp
    refine region_anyT (fun w' => w'.heap[w.heap.size]? = some (.cells #[.int .i64 kind, .string tb, .slice aC cols.length ac1, .string key, .string ix, .slice aR rows.length ac2, .slice aS sets.length ac3, .slice aI items.length ac4, .string jn, .slice aO on.length ac5, .slice aW wh.length ac6, .slice aG gr.length ac7, .slice aD ord.length ac8, .int .i64 lim] 28 (0, 0)) ∧ w'.heap[w.heap.size + 1]? = some (.cells #[.int .i64 kind', .string tb', .slice dC cols'.length dc1, .string key', .string ix', .slice dR rows'.length dc2, .slice dS sets'.length dc3, .slice dI items'.length dc4, .string jn', .slice dO on'.length dc5, .slice dW wh'.length dc6, .slice dG gr'.length dc7, .slice dD ord'.length dc8, .int .i64 lim'] 28 (0, 0)) ∧ w'.heap[b5]? = some (.cells #[.int .i64 kind, .string tb, .slice bC cols.length bc1, .string key, .string ix, .slice bR rows.length bc2, .slice bS sets.length bc3, .slice bI items.length bc4, .string jn, .slice bO on.length bc5, .slice bW wh.length bc6, .slice bG gr.length bc7, .slice bD ord.length bc8, .int .i64 lim] 28 (0, 0)) ∧ w'.heap[b6]? = some (.cells #[.int .i64 kind', .string tb', .slice eC cols'.length ec1, .string key', .string ix', .slice eR rows'.length ec2, .slice eS sets'.length ec3, .slice eI items'.length ec4, .string jn', .slice eO on'.length ec5, .slice eW wh'.length ec6, .slice eG gr'.length ec7, .slice eD ord'.length ec8, .int .i64 lim'] 28 (0, 0))) [0, 1, 2, 3, 4, 5, 8, 9, 10, 11, 16] (by kernel_rfl) ⟨HXD.out, HYD.out, H5.out, H6.out⟩ ?_
    intro hcl hS
    have HW := Lib.hid hS
    replace HXD := Lib.hid hS.1
    replace HYD := Lib.hid hS.2.1
    replace H5 := Lib.hid hS.2.2.1
    replace H6 := Lib.hid hS.2.2.2
    replace RX := Lib.hid (RX.out.below (Below.refl _ v1).drew)
    replace RY := Lib.hid (RY.out.below (Below.refl _ v1).drew)
    replace HBD := Lib.hid HBD.out.drew
    clear HW
    generalize v1.drew = v2 at *
    refine anyT_take (i := 0) (v := .agg #[.int .i64 kind, .string tb, .slice bC cols.length bc1, .string key, .string ix, .slice bR rows.length bc2, .slice bS sets.length bc3, .slice bI items.length bc4, .string jn, .slice bO on.length bc5, .slice bW wh.length bc6, .slice bG gr.length bc7, .slice bD ord.length bc8, .int .i64 lim]) rfl (by kernel_rfl) (by kernel_rfl) (by kernel_rfl) (by kernel_rfl) (fun _ _ _ h => h) (Or.inl ⟨by rfl, ?hy3⟩) hS hcl ?rest3
    case hy3 => intro w' hSw; obtain ⟨x0, x1, x2, x3, x4, x5, x6, x7, x8, x9, x10, x11, x12, x13⟩ := cells14 hSw.2.2.1; go_simp
    clear hcl
    intro hcl
    try simp only [Act.put, List.setIfInBounds_toArray, List.set_cons_zero, List.set_cons_succ]
    refine anyT_take (i := 1) (v := .agg #[.int .i64 kind', .string tb', .slice eC cols'.length ec1, .string key', .string ix', .slice eR rows'.length ec2, .slice eS sets'.length ec3, .slice eI items'.length ec4, .string jn', .slice eO on'.length ec5, .slice eW wh'.length ec6, .slice eG gr'.length ec7, .slice eD ord'.length ec8, .int .i64 lim']) rfl (by kernel_rfl) (by kernel_rfl) (by kernel_rfl) (by kernel_rfl) (fun _ _ _ h => h) (Or.inl ⟨by rfl, ?hy4⟩) hS hcl ?rest4
    case hy4 => intro w' hSw; obtain ⟨x0, x1, x2, x3, x4, x5, x6, x7, x8, x9, x10, x11, x12, x13⟩ := cells14 hSw.2.2.2; go_simp
    clear hcl
    intro hcl
    try simp only [Act.put, List.setIfInBounds_toArray, List.set_cons_zero, List.set_cons_succ]
    refine anyT_take (i := 3) (v := .agg #[.int .i64 kind, .string tb, .slice aC cols.length ac1, .string key, .string ix, .slice aR rows.length ac2, .slice aS sets.length ac3, .slice aI items.length ac4, .string jn, .slice aO on.length ac5, .slice aW wh.length ac6, .slice aG gr.length ac7, .slice aD ord.length ac8, .int .i64 lim]) rfl (by kernel_rfl) (by kernel_rfl) (by kernel_rfl) (by kernel_rfl) (fun _ _ _ h => h) (Or.inl ⟨by rfl, ?hy5⟩) hS hcl ?rest5
    case hy5 => intro w' hSw; obtain ⟨x0, x1, x2, x3, x4, x5, x6, x7, x8, x9, x10, x11, x12, x13⟩ := cells14 hSw.1; go_simp
    clear hcl
    intro hcl
    try simp only [Act.put, List.setIfInBounds_toArray, List.set_cons_zero, List.set_cons_succ]
    refine anyT_take (i := 4) (v := .agg #[.int .i64 kind', .string tb', .slice dC cols'.length dc1, .string key', .string ix', .slice dR rows'.length dc2, .slice dS sets'.length dc3, .slice dI items'.length dc4, .string jn', .slice dO on'.length dc5, .slice dW wh'.length dc6, .slice dG gr'.length dc7, .slice dD ord'.length dc8, .int .i64 lim']) rfl (by kernel_rfl) (by kernel_rfl) (by kernel_rfl) (by kernel_rfl) (fun _ _ _ h => h) (Or.inl ⟨by rfl, ?hy6⟩) hS hcl ?rest6
    case hy6 => intro w' hSw; obtain ⟨x0, x1, x2, x3, x4, x5, x6, x7, x8, x9, x10, x11, x12, x13⟩ := cells14 hSw.2.1; go_simp
    clear hcl
    intro hcl
    try simp only [Act.put, List.setIfInBounds_toArray, List.set_cons_zero, List.set_cons_succ]
    refine anyT_step (k := 2) rfl (by kernel_rfl) hcl ?_
    intro K hK
    clear hcl hS
    go_simp
    go_at_call 21
    refine (HM.out _ _ _ RX.out RY.out).mono ?_
    rintro e v3 ⟨rfl, hb⟩
    replace HXD := Lib.hid ((hb.block _ (heap_lt HXD.out)).trans HXD.out)
    replace HYD := Lib.hid ((hb.block _ (heap_lt HYD.out)).trans HYD.out)
    replace H5 := Lib.hid ((hb.block _ (heap_lt H5.out)).trans H5.out)
    replace H6 := Lib.hid ((hb.block _ (heap_lt H6.out)).trans H6.out)
    replace RX := Lib.hid (RX.out.below hb)
    replace RY := Lib.hid (RY.out.below hb)
    replace HBD := Lib.hid (below_call hb HBD.out HBD.out.size)
    clear hb
    refine hK.out _ _ ⟨HXD.out, HYD.out, H5.out, H6.out⟩ (fun hS hcl => ?_)
    clear hK K
    try simp only [Act.put, List.setIfInBounds_toArray, List.set_cons_zero, List.set_cons_succ]
    refine anyT_step (k := 5) rfl (by kernel_rfl) hcl ?_
    intro K hK
    clear hcl hS
    go_simp
    go_at_call 22
    refine (HR.out _ HBD.out).mono ?_
    rintro e v4 ⟨rfl, hb⟩
    replace HXD := Lib.hid ((hb.block _ (heap_lt HXD.out)).trans HXD.out)
    replace HYD := Lib.hid ((hb.block _ (heap_lt HYD.out)).trans HYD.out)
    replace H5 := Lib.hid ((hb.block _ (heap_lt H5.out)).trans H5.out)
    replace H6 := Lib.hid ((hb.block _ (heap_lt H6.out)).trans H6.out)
    replace RX := Lib.hid (RX.out.below hb)
    replace RY := Lib.hid (RY.out.below hb)
    replace HBD := Lib.hid (below_call hb HBD.out HBD.out.size)
    clear hb
    refine hK.out _ _ ⟨HXD.out, HYD.out, H5.out, H6.out⟩ (fun hS hcl => ?_)
    clear hK K
    try simp only [Act.put, List.setIfInBounds_toArray, List.set_cons_zero, List.set_cons_succ]
    refine anyT_free (i := 6) (v := ?v7) rfl (by kernel_rfl) (by kernel_rfl) (by kernel_rfl) (by kernel_rfl) (fun _ _ _ h => h) (Or.inl ⟨by rfl, ?hy7⟩) hcl ?rest7
    case hy7 => intro w' _; go_simp; with_reducible rfl
    clear hcl
    intro hcl
    try simp only [Act.put, List.setIfInBounds_toArray, List.set_cons_zero, List.set_cons_succ]
    refine anyT_free (i := 7) (v := ?v8) rfl (by kernel_rfl) (by kernel_rfl) (by kernel_rfl) (by kernel_rfl) (fun _ _ _ h => h) (Or.inl ⟨by rfl, ?hy8⟩) hcl ?rest8
    case hy8 => intro w' _; go_simp; with_reducible rfl
    clear hcl
    intro hcl
    try simp only [Act.put, List.setIfInBounds_toArray, List.set_cons_zero, List.set_cons_succ]
    refine anyT_free (i := 12) (v := ?v9) rfl (by kernel_rfl) (by kernel_rfl) (by kernel_rfl) (by kernel_rfl) (fun _ _ _ h => h) (Or.inl ⟨by rfl, ?hy9⟩) hcl ?rest9
    case hy9 => intro w' _; go_simp; with_reducible rfl
    clear hcl
    intro hcl
    try simp only [Act.put, List.setIfInBounds_toArray, List.set_cons_zero, List.set_cons_succ]
    refine anyT_take (i := 8) (v := .agg #[.int .i64 kind, .string tb, .slice bC cols.length bc1, .string key, .string ix, .slice bR rows.length bc2, .slice bS sets.length bc3, .slice bI items.length bc4, .string jn, .slice bO on.length bc5, .slice bW wh.length bc6, .slice bG gr.length bc7, .slice bD ord.length bc8, .int .i64 lim]) rfl (by kernel_rfl) (by kernel_rfl) (by kernel_rfl) (by kernel_rfl) (fun _ _ _ h => h) (Or.inl ⟨by rfl, ?hy10⟩) hS hcl ?rest10
    case hy10 => intro w' hSw; obtain ⟨x0, x1, x2, x3, x4, x5, x6, x7, x8, x9, x10, x11, x12, x13⟩ := cells14 hSw.2.2.1; go_simp
    clear hcl
    intro hcl
    try simp only [Act.put, List.setIfInBounds_toArray, List.set_cons_zero, List.set_cons_succ]
    refine anyT_take (i := 9) (v := .agg #[.int .i64 kind, .string tb, .slice aC cols.length ac1, .string key, .string ix, .slice aR rows.length ac2, .slice aS sets.length ac3, .slice aI items.length ac4, .string jn, .slice aO on.length ac5, .slice aW wh.length ac6, .slice aG gr.length ac7, .slice aD ord.length ac8, .int .i64 lim]) rfl (by kernel_rfl) (by kernel_rfl) (by kernel_rfl) (by kernel_rfl) (fun _ _ _ h => h) (Or.inl ⟨by rfl, ?hy11⟩) hS hcl ?rest11
    case hy11 => intro w' hSw; obtain ⟨x0, x1, x2, x3, x4, x5, x6, x7, x8, x9, x10, x11, x12, x13⟩ := cells14 hSw.1; go_simp
    clear hcl
    intro hcl
    try simp only [Act.put, List.setIfInBounds_toArray, List.set_cons_zero, List.set_cons_succ]
    refine anyT_step (k := 10) rfl (by kernel_rfl) hcl ?_
    intro K hK
    clear hcl hS
    go_simp
    go_at_call 11
    refine (HCX.out _ HBD.out).mono ?_
    rintro e v5 ⟨⟨⟨fC, fc1⟩, ⟨fR, fc2⟩, ⟨fS, fc3⟩, ⟨fI, fc4⟩, ⟨fO, fc5⟩, ⟨fW, fc6⟩, ⟨fG, fc7⟩, ⟨fD, fc8⟩⟩, rfl, hrd, hb⟩
    have RF := Lib.hid hrd.any
    clear hrd
    replace HXD := Lib.hid ((hb.block _ (heap_lt HXD.out)).trans HXD.out)
    replace HYD := Lib.hid ((hb.block _ (heap_lt HYD.out)).trans HYD.out)
    replace H5 := Lib.hid ((hb.block _ (heap_lt H5.out)).trans H5.out)
    replace H6 := Lib.hid ((hb.block _ (heap_lt H6.out)).trans H6.out)
    replace RX := Lib.hid (RX.out.below hb)
    replace RY := Lib.hid (RY.out.below hb)
    replace HBD := Lib.hid (below_call hb HBD.out HBD.out.size)
    clear hb
    refine hK.out _ _ ⟨HXD.out, HYD.out, H5.out, H6.out⟩ (fun hS hcl => ?_)
    clear hK K
    try simp only [Act.put, List.setIfInBounds_toArray, List.set_cons_zero, List.set_cons_succ]
    refine anyT_step (k := 11) rfl (by kernel_rfl) hcl ?_
    intro K hK
    clear hcl hS
    go_simp
    go_at_call 21
    refine (HM2.out _ _ _ RX.out RF.out).mono ?_
    rintro e v6 ⟨rfl, hb⟩
    replace HXD := Lib.hid ((hb.block _ (heap_lt HXD.out)).trans HXD.out)
    replace HYD := Lib.hid ((hb.block _ (heap_lt HYD.out)).trans HYD.out)
    replace H5 := Lib.hid ((hb.block _ (heap_lt H5.out)).trans H5.out)
    replace H6 := Lib.hid ((hb.block _ (heap_lt H6.out)).trans H6.out)
    replace RX := Lib.hid (RX.out.below hb)
    replace RY := Lib.hid (RY.out.below hb)
    replace HBD := Lib.hid (below_call hb HBD.out HBD.out.size)
    clear hb
    refine hK.out _ _ ⟨HXD.out, HYD.out, H5.out, H6.out⟩ (fun hS hcl => ?_)
    clear hK K
    try simp only [Act.put, List.setIfInBounds_toArray, List.set_cons_zero, List.set_cons_succ]
    refine anyT_free (i := 13) (v := ?v12) rfl (by kernel_rfl) (by kernel_rfl) (by kernel_rfl) (by kernel_rfl) (fun _ _ _ h => h) (Or.inl ⟨by rfl, ?hy12⟩) hcl ?rest12
    case hy12 => intro w' _; go_simp; with_reducible rfl
    clear hcl
    intro hcl
    try simp only [Act.put, List.setIfInBounds_toArray, List.set_cons_zero, List.set_cons_succ]
    refine anyT_free (i := 14) (v := ?v13) rfl (by kernel_rfl) (by kernel_rfl) (by kernel_rfl) (by kernel_rfl) (fun _ _ _ h => h) (Or.inl ⟨by rfl, ?hy13⟩) hcl ?rest13
    case hy13 => intro w' _; go_simp; with_reducible rfl
    clear hcl
    intro hcl
    try simp only [Act.put, List.setIfInBounds_toArray, List.set_cons_zero, List.set_cons_succ]
    refine anyT_free (i := 15) (v := ?v14) rfl (by kernel_rfl) (by kernel_rfl) (by kernel_rfl) (by kernel_rfl) (fun _ _ _ h => h) (Or.inl ⟨by rfl, ?hy14⟩) hcl ?rest14
    case hy14 => intro w' _; go_simp; with_reducible rfl
    clear hcl
    intro hcl
    try simp only [Act.put, List.setIfInBounds_toArray, List.set_cons_zero, List.set_cons_succ]
    refine anyT_step (k := 16) rfl (by kernel_rfl) hcl ?_
    intro K hK
    clear hcl hS
    go_simp
    go_at_call 20
    refine (HA.out _ HBD.out).mono ?_
    rintro e v7 ⟨rfl, hb⟩
    replace HXD := Lib.hid ((hb.block _ (heap_lt HXD.out)).trans HXD.out)
    replace HYD := Lib.hid ((hb.block _ (heap_lt HYD.out)).trans HYD.out)
    replace H5 := Lib.hid ((hb.block _ (heap_lt H5.out)).trans H5.out)
    replace H6 := Lib.hid ((hb.block _ (heap_lt H6.out)).trans H6.out)
    replace RX := Lib.hid (RX.out.below hb)
    replace RY := Lib.hid (RY.out.below hb)
    replace HBD := Lib.hid (below_call hb HBD.out HBD.out.size)
    clear hb
    refine hK.out _ _ ⟨HXD.out, HYD.out, H5.out, H6.out⟩ (fun hS hcl => ?_)
    clear hK K
    try simp only [Act.put, List.setIfInBounds_toArray, List.set_cons_zero, List.set_cons_succ]
    refine anyT_free (i := 17) (v := ?v15) rfl (by kernel_rfl) (by kernel_rfl) (by kernel_rfl) (by kernel_rfl) (fun _ _ _ h => h) (Or.inl ⟨by rfl, ?hy15⟩) hcl ?rest15
    case hy15 => intro w' _; go_simp; with_reducible rfl
    clear hcl
    intro hcl
    try simp only [Act.put, List.setIfInBounds_toArray, List.set_cons_zero, List.set_cons_succ]
    refine anyT_free (i := 18) (v := ?v16) rfl (by kernel_rfl) (by kernel_rfl) (by kernel_rfl) (by kernel_rfl) (fun _ _ _ h => h) (Or.inl ⟨by rfl, ?hy16⟩) hcl ?rest16
    case hy16 => intro w' _; go_simp; with_reducible rfl
    clear hcl
    intro hcl
    try simp only [Act.put, List.setIfInBounds_toArray, List.set_cons_zero, List.set_cons_succ]
    refine anyT_done (by kernel_rfl) ?_ _
    go_simp
    go_wp2_with fail
    go_ret
    exact ⟨rfl, HBD.out⟩
end Go.Proofs.YtnbgnofbeklmkaaGreatDoor
namespace Go.Proofs.YtnbgnofbeklmkaaGreatDoor.syntaxSame
open Go.ChangeShapes Go.WideShapes Go.ChangeAt Go.RowKit
open Go.Proofs.YtnbgnofbeklmkaaGreatDoor Go.Proofs.YtnbgnofbeklmkaaGreatDoor.Sy
set_option linter.unusedSimpArgs false
set_option linter.unusedVariables false

theorem recS : Tryz.prog.readableRec 28 = true := by kernel_rfl
theorem rowS : 28 < Tryz.prog.types.size := of_decide_eq_true (by kernel_rfl)
set_option maxHeartbeats 1000000 in
set_option maxRecDepth 100000 in
theorem lifted (os : Os) (started : os.Started) (H : Type) (enc : TypeId × Value → H) :
    ReturnsInHanded {} Tryz.checked os 4 .any (fun w args => (Rows.syntaxSameSpec.pre enc Tryz.prog Tryz.f4 [] false w args ∧ laidMetH Tryz.prog laid w) ∧ sizedMet enc Tryz.prog Tryz.f4 (OpenSpec.ofChange Rows.syntaxSameSpec) false w args)
      (Rows.syntaxSameSpec.post enc Tryz.prog Tryz.f4 false true false false) := by
  refine returns_and_shaped (C := Tryz.checked) (X := fun w _ => laidMetH Tryz.prog laid w) (fun _ _ _ hh h => h.of_heap hh) own started (by kernel_rfl) Tryz.func4
    (ChangeSpec.witness_shaped (enc := enc) (C := Tryz.checked) (os := os) (X := fun w _ => laidMetH Tryz.prog laid w) false (World.laidAll Tryz.prog os laid) #[.agg #[.int .i64 0, .string ⟨#[]⟩, .slice none 0 0, .string ⟨#[]⟩, .string ⟨#[]⟩, .slice none 0 0, .slice none 0 0, .slice none 0 0, .string ⟨#[]⟩, .slice none 0 0, .slice none 0 0, .slice none 0 0, .slice none 0 0, .int .i64 0], .agg #[.int .i64 0, .string ⟨#[]⟩, .slice none 0 0, .string ⟨#[]⟩, .string ⟨#[]⟩, .slice none 0 0, .slice none 0 0, .slice none 0 0, .string ⟨#[]⟩, .slice none 0 0, .slice none 0 0, .slice none 0 0, .slice none 0 0, .int .i64 0]] 8 (World.laidAll_os _ _ _) (start_shaped os _) (by kernel_rfl) (by kernel_rfl) (by kernel_rfl) (start_met os _)) ?_
  intro W base args ds gs before hval0 hW hsz0 hL hsh
  have hsz : (DataW.weightsEach Tryz.prog (Tryz.f4.params.toList ++ Rows.syntaxSameSpec.plain.varTypes Tryz.prog) (ds ++ gs)).all (· ≤ reachBytes) = true := hsz0
  clear hsz0
  have hval : ∀ (j : Nat) t v, Tryz.f4.params[j]? = some t → args[j]? = some v → Value.okWide Tryz.prog W .any base t v := hval0
  have hW' := hW
  obtain ⟨p, q, hA0, hV, rfl, _, _⟩ := hW
  have hA : DataW.TrodAll enc Tryz.prog W 0 (fun _ => true) true Tryz.f4.params.toList args.toList ds p := hA0
  rw [Tryz.params4] at hA hval hsz
  obtain ⟨v0, v1, d0, d1, p0, p1, rfl, rfl, rfl, h0, h1⟩ := trodAll_two hA
  obtain ⟨rfl, rfl⟩ := trodVars_none hV
  obtain ⟨f0, g0⟩ := open_stmt (hval 0 28 v0 rfl rfl) h0 (lt_one hsz (j := 0) rfl rfl)
  obtain ⟨f1, g1⟩ := open_stmt (hval 1 28 v1 rfl rfl) h1 (lt_one hsz (j := 1) rfl rfl)
  obtain ⟨z0, hs0, rfl, hr0⟩ := g0 (max f0 f1) (Nat.le_max_left _ _)
  obtain ⟨z1, hs1, rfl, hr1⟩ := g1 (max f0 f1) (Nat.le_max_right _ _)
  clear hA0 hval0 hsz
  simp only [List.append_nil] at hW'
  have hlt0 : ∀ y ∈ p0, y.block < W.heap.size := fun y hy => hW'.lt y (List.mem_append_left _ hy)
  have hlt1 : ∀ y ∈ p1, y.block < W.heap.size := fun y hy => hW'.lt y (List.mem_append_right _ hy)
  refine (same_walk z0 z1 hs0 hs1 W hr0 hr1  (env_of hL hsh)).mono fun e W' ⟨he, hB⟩ => ?_
  subst he
  exact ⟨_, rfl, _, _, _, [], p0 ++ p1, [], hW', trodAll_mk1 (shut_bool Tryz.underlying4 _), trodAll_mk2 (Below.trod laidOut recS rowS h0 hB hlt0) (Below.trod laidOut recS rowS h1 hB hlt1), rfl, hB.frame _, fun h => by cases h⟩

theorem holds : Rows.SyntaxSameSaid :=
  OpenClaim.holds_of_wide 4 Tryz.f4 rfl rfl rfl rfl rfl rfl rfl ⟨rfl, rfl, rfl, rfl, rfl⟩ rfl rfl rfl rfl rfl (by kernel_rfl) Tryz.func4 (by kernel_rfl)
    (of_decide_eq_true (by kernel_rfl)) (by unfold Func.isWrapper; first | (rw [if_pos (by decide +kernel)]; kernel_rfl) | (rw [if_neg (by decide +kernel)]; exact ⟨rfl, rfl⟩))
    (fun os started H enc _ => lifted os started H enc)

theorem card : Rows.SyntaxSameCardSaid :=
  Claim7.holds_tied_plain_at .later [] [.data, .data, .data, .data, .pinned] true (true, "8d03d6588a16a6bb356fa2c5186746eaad4358375bda485b4d9be1d676590a21") true
    holds (fun _ h => by cases h) (by kernel_rfl) (fun _ h => by cases h) syntaxSame_row_tie rfl ⟨rfl, rfl⟩ (by kernel_rfl) rfl
    (fun f fn hf hfn => by
      obtain rfl : f = 4 := Option.some.inj ((show Tryz.prog.funcNamed "switchback/switchbacklaw04.SyntaxSame" = some 4 by kernel_rfl).symm.trans hf) |>.symm
      obtain rfl : fn = Tryz.f4 := (Option.some.inj (Tryz.func4.symm.trans hfn)).symm
      exact ⟨by kernel_rfl, fun j t ht => by
        rw [Tryz.params4] at ht
        have hm : t ∈ [28, 28] := by simpa using Array.mem_of_getElem? ht
        have hall : ([28, 28].all fun u => !Tryz.prog.wantsStandIn u) = true := by kernel_rfl
        exact (show Tryz.prog.wantsStandIn t = false by simpa using List.all_eq_true.1 hall t hm)⟩)
    (by kernel_rfl)

end Go.Proofs.YtnbgnofbeklmkaaGreatDoor.syntaxSame
namespace Go.Proofs.YtnbgnofbeklmkaaGreatDoor
theorem syntaxSame_holds : Rows.SyntaxSameCardSaid := syntaxSame.card
#print axioms syntaxSame_holds
end Go.Proofs.YtnbgnofbeklmkaaGreatDoor
