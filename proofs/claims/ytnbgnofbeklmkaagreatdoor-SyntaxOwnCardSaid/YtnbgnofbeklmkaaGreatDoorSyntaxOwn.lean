/- For any a statement SyntaxOwn answers true (what is handed in stays, and a print is the same twice), and what is handed in reads as before; the library's variables hold what the program's text lays into them (tied to the text). No other conditions. -/
import Derived.Test.YtnbgnofbeklmkaaGreatDoorRows
import Derived.Test.YtnbgnofbeklmkaaGreatDoorTie
import Derived.Test.YtnbgnofbeklmkaaGreatDoorUb
import Derived.Test.YtnbgnofbeklmkaaGreatDoorUf
import Derived.ProofKit
import Derived.OpenShut
import Derived.Carry
import Derived.SizedLaws
import Derived.Handed
import Derived.ChangeMaps5
import Derived.Lib.LaidTab
import Derived.Lib.SmallJoins
import Derived.Stop.LaidErr
import Derived.Shelf.Vars
import Derived.Lay
import Derived.LaidOnce
import Derived.SevenTiedAt
import Derived.Test.YtnbgnofbeklmkaaGreatDoorTp0
import Derived.Test.YtnbgnofbeklmkaaGreatDoorGf
import Derived.Test.YtnbgnofbeklmkaaGreatDoorFc
import Derived.Test.YtnbgnofbeklmkaaGreatDoorUk
import Derived.Test.YtnbgnofbeklmkaaGreatDoorDc3
import Derived.Test.YtnbgnofbeklmkaaGreatDoorFe
import Derived.Test.YtnbgnofbeklmkaaGreatDoorCards
/- What the listed variables and the world's shape give a walk, a start that meets them, and how an expression as an argument is read. Conditions: none. -/
namespace Go.Proofs.YtnbgnofbeklmkaaGreatDoor.Sy
open Go.Proofs.YtnbgnofbeklmkaaGreatDoor
open Go.ChangeShapes Go.WideShapes Go.ChangeAt Go.RowKit
set_option linter.unusedSimpArgs false
set_option linter.unusedVariables false

theorem own : ownKnob Tryz.prog.godebug = none := by kernel_rfl
def laid : List (String × DataW Unit) := Rows.syntaxTellsRow.laid
theorem laidOut : laidOutB Tryz.prog = true := by kernel_rfl
theorem recE : Tryz.prog.readableRec 51 = true := by kernel_rfl
theorem rowE : 51 < Tryz.prog.types.size := of_decide_eq_true (by kernel_rfl)
theorem tPow : (Tryz.prog.globals[3]?).map (·.type) = some 231 := by kernel_rfl
theorem cPow : Tryz.prog.cellsOf 231 = 20 := by kernel_rfl
theorem cU64 : Tryz.prog.cellsOf 218 = 1 := by kernel_rfl
theorem dPow : (Rows.laid_internal_strconv_uint64pow10 : DataW Unit) = Lib.tabData .u64 Lib.pow10Tab := by kernel_rfl
theorem env_of {W : World} (h : laidMetH Tryz.prog laid W) (hsh : W.ShapedOpen Tryz.prog) : Env W.heap.size W := by
  rw [MakeChecks.laidMetH_plain _ _ _ (by kernel_rfl)] at h
  have h2 : laidMet Tryz.prog laid W := h
  have h3 : laidMet Tryz.prog (("internal/strconv.uint64pow10", Rows.laid_internal_strconv_uint64pow10) :: [("unicode/utf8.acceptRanges", Rows.laid_unicode_utf8_acceptRanges), ("unicode/utf8.first", Rows.laid_unicode_utf8_first)]) W := laidMet.tail (laidMet.tail h2)
  rw [dPow] at h3
  obtain ⟨m, hm⟩ := cell_of_shapedOpen_int (g := 0) (t := 3) (k := .i64) hsh (of_decide_eq_true (by kernel_rfl)) (zero := #[.int .i64 0]) (by kernel_rfl) rfl (by kernel_rfl) (by kernel_rfl) Tryz.underlying3
  exact Env.start hm (Lib.tabIs_of_head globalPow tPow Tryz.underlying231 Tryz.underlying218 cU64 cPow h3)

/-- The plain wrap with a condition of one's own, the world's shape kept. -/
theorem returns_and_shaped {H : Type} {enc : TypeId × Value → H} {a : Assume} {C : Checked} {os : Os} {f : FuncId} {fn : Func} {s : ChangeSpec} {conds : List PathCond} {apart fresh handsOn again : Bool} {X : World → Array Value → Prop}
    (hX : ∀ (w w' : World) (args : Array Value), w.heap = w'.heap → X w args → X w' args)
    (own : ownKnob C.prog.godebug = none) (started : os.Started) (noInit : C.prog.inits.idxOf? f = none) (hfn : C.prog.funcs[f]? = some fn)
    (witness : ∃ (w : World) (tape : Tape) (i : Input), w.os = os ∧ (w.forCall tape i).Shaped C.prog ∧ i.vars = [] ∧ Input.okWide C.prog (w.forCall tape i) .any w.heap.size f i ∧
      ((s.pre enc C.prog fn conds apart (w.forCall tape i).memory i.args ∧ X (w.forCall tape i).memory i.args) ∧ sizedMet enc C.prog fn (OpenSpec.ofChange s) apart (w.forCall tape i).memory i.args) ∧ a.holds C.prog (lone (Frame.enter C.prog f i.args .normal) [] (w.forCall tape i)))
    (contract : ∀ (W : World) (base : Nat) (args : Array Value) (ds gs : List (DataW H)) (before : List MemPlace),
      (∀ (j : Nat) t v, fn.params[j]? = some t → args[j]? = some v → Value.okWide C.prog W .any base t v) →
      DataW.Whole enc C.prog fn.params.toList s.vars apart W args.toList ds gs before →
      (DataW.weightsEach C.prog (fn.params.toList ++ s.plain.varTypes C.prog) (ds ++ gs)).all (· ≤ reachBytes) = true → X W args → W.ShapedOpen C.prog →
      Calls C.prog f args W fun e W' => ∃ v, e = .returned v ∧ s.post enc C.prog fn apart fresh handsOn again W args v W') :
    ReturnsInHanded a C os f .any (fun w args => (s.pre enc C.prog fn conds apart w args ∧ X w args) ∧ sizedMet enc C.prog fn (OpenSpec.ofChange s) apart w args) (s.post enc C.prog fn apart fresh handsOn again) := by
  refine returnsInHanded_of_calls own started noInit witness ?_
  intro w tape i _ hsh _ hok hpre hholds
  obtain ⟨_, _, _, fn', hfn', _, _, _, _, hval⟩ := hok
  have e : fn' = fn := Option.some.inj (hfn'.symm.trans hfn)
  subst e
  obtain ⟨⟨⟨ds, gs, before, hw, hc⟩, hx⟩, hz⟩ := hpre
  have hw' := DataW.Whole.of_heap (w' := w.forCall tape i) (by rfl) hw
  refine (contract (w.forCall tape i) w.heap.size i.args ds gs before hval hw' (hz.weights hw) (hX _ _ _ (by rfl) hx) hsh).mono fun e W' ⟨v, he, hp⟩ => ?_
  subst he
  exact ChangeSpec.post_blind hp

theorem start_shaped (os : Os) (args : Array Value) : ((World.laidAll Tryz.prog os laid).forCall (fun _ _ => 0) ⟨#[], args, []⟩).Shaped Tryz.prog := World.shaped_of_ZipB (by kernel_rfl) (by kernel_rfl)
theorem start_met (os : Os) (args : Array Value) : laidMetH Tryz.prog laid ((World.laidAll Tryz.prog os laid).forCall (fun _ _ => 0) ⟨#[], args, []⟩).memory := by
  rw [MakeChecks.laidMetH_plain _ _ _ (by kernel_rfl)]
  exact laidMet_laidAll _ (by kernel_rfl) (by kernel_rfl)

section
variable {H : Type} {enc : TypeId × Value → H} {w : World} {base : Nat} {spare : Nat → Bool} {held : Bool}
set_option maxRecDepth 100000 in
theorem open_expr {r : Reach} {b0 : Nat} {v : Value} {d : DataW H} {p : List MemPlace} (hv : Value.okWide Tryz.prog w r b0 51 v) (h : DataW.Trod enc Tryz.prog w base spare held 51 v d p) (hw : Lt 51 d) :
    ∃ (n : Nat) (x : ExN (Ar n)) (a : Option Addr) (c : Nat), v = x.val a c ∧ RdE w n a c x.l := by
  obtain ⟨cs, rfl, hsz⟩ := okWide_struct Tryz.underlying51 hv
  obtain ⟨fuel, hf⟩ := h
  obtain ⟨y, a, c, e, hd⟩ := open_ar fuel _ _ hf hw
  rw [KE_cs] at e
  rw [KE_dp] at hd
  refine ⟨gf fuel - 1, y.e, a, c, ?_, hd⟩
  have e2 : cs.toList = y.e.cs a c := by simpa [Value.cells] using e
  have e3 : cs = (y.e.cs a c).toArray := by rw [← e2]
  rw [e3]
  rfl
theorem lt_one {t : TypeId} {ds : List (DataW H)} {ts : List TypeId} {d : DataW H} {j : Nat} (h : (DataW.weightsEach Tryz.prog ts ds).all (· ≤ reachBytes) = true) (ht : ts[j]? = some t) (hd : ds[j]? = some d) : Lt t d := fun n hn =>
  of_decide_eq_true (List.all_eq_true.1 h n (DataW.weights_mem_each ht hd n hn))
end
end Go.Proofs.YtnbgnofbeklmkaaGreatDoor.Sy
/- How a statement that came in as an argument is read: from the reading of data to ours. Conditions: none. -/
namespace Go.Proofs.YtnbgnofbeklmkaaGreatDoor
open Go.ChangeShapes Go.WideShapes Go.ChangeAt Go.RowKit
set_option linter.unusedSimpArgs false
set_option linter.unusedVariables false

section
variable {H : Type} {enc : TypeId × Value → H} {w : World} {base : Nat} {spare : Nat → Bool} {held : Bool}
theorem cellsR : Tryz.prog.cellsOf 23 = 1 := by kernel_rfl
theorem cellsSx : Tryz.prog.cellsOf 59 = 8 := by kernel_rfl
theorem cellsLS : Tryz.prog.cellsOf 24 = 1 := by kernel_rfl
theorem cellsCl : Tryz.prog.cellsOf 82 = 3 := by kernel_rfl
theorem cellsLC : Tryz.prog.cellsOf 22 = 1 := by kernel_rfl
theorem cellsOd : Tryz.prog.cellsOf 85 = 2 := by kernel_rfl
theorem cellsLO : Tryz.prog.cellsOf 26 = 1 := by kernel_rfl
theorem cellsB : Tryz.prog.cellsOf 4 = 1 := by kernel_rfl
theorem cellsSt14 : Tryz.prog.cellsOf 28 = 14 := by kernel_rfl
theorem bytesL : Tryz.prog.bytesOf 25 = 24 := by kernel_rfl
theorem bytesSx : Tryz.prog.bytesOf 59 = 112 := by kernel_rfl
theorem bytesCl : Tryz.prog.bytesOf 82 = 32 := by kernel_rfl
theorem bytesOd : Tryz.prog.bytesOf 85 = 16 := by kernel_rfl

theorem open_arF {f F : Nat} (hF : f ≤ F) {cs : List Value} {x : DataW H × List MemPlace} (h : DataW.trod enc Tryz.prog w base spare held f 51 cs = some x) (hw : Lt 51 x.1) :
    ∃ (y : Ar (gf F)) (a : Option Addr) (c : Nat), cs = (KE (gf F)).cs y a c ∧ (KE (gf F)).dp Any w y a c := open_ar F cs x (DataW.trod_le hF h) hw
theorem open_exF {f F : Nat} (hF : f ≤ F) {cs : List Value} {x : DataW H × List MemPlace} (h : DataW.trod enc Tryz.prog w base spare held f 51 cs = some x) (hw : Lt 51 x.1) :
    ∃ (y : ExN (Ar (gf F))) (a : Option Addr) (c : Nat), cs = y.cs a c ∧ RdE w (gf F) a c y.l := by
  obtain ⟨y, a, c, e, hd⟩ := open_ar (F + 2) cs x (DataW.trod_le (Nat.le_trans hF (Nat.le_add_right _ _)) h) hw
  exact ⟨(y : ExN (Ar (gf F))), a, c, e, hd⟩
theorem open_exprsF {f F : Nat} (hF : f ≤ F) {cs : List Value} {x : DataW H × List MemPlace} (h : DataW.trod enc Tryz.prog w base spare held f 25 cs = some x) (hw : Lt 25 x.1) :
    ∃ (A : Option Addr) (c : Nat) (l : List (Ar (gf F))), cs = [.slice A l.length c] ∧ RdE w (gf F) A c l :=
  open_rd (KE (gf F)) Tryz.underlying25 (by rw [KE_k]; exact cellsE) (by rw [KE_b]; exact bytesE) h hw (fun m hm cs' y hy hwy => open_arF (by omega) hy hwy)
theorem open_rowsF {f F : Nat} (hF : f ≤ F) {cs : List Value} {x : DataW H × List MemPlace} (h : DataW.trod enc Tryz.prog w base spare held f 23 cs = some x) (hw : Lt 23 x.1) :
    ∃ (A : Option Addr) (c : Nat) (l : List (List (Ar (gf F)))), cs = [.slice A l.length c] ∧ RdK (KR (gf F)) Any w A c l :=
  open_rd (KR (gf F)) Tryz.underlying23 cellsL bytesL h hw (fun m hm cs' y hy hwy => by
    obtain ⟨A, c, l, e, hd⟩ := open_exprsF (F := F) (by omega) hy hwy
    exact ⟨l, A, c, e, hd⟩)
theorem list8 {α : Type} {cs : List α} (h : cs.length = 8) : ∃ c0 c1 c2 c3 c4 c5 c6 c7, cs = [c0, c1, c2, c3, c4, c5, c6, c7] := by
  match cs, h with
  | [c0, c1, c2, c3, c4, c5, c6, c7], _ => exact ⟨c0, c1, c2, c3, c4, c5, c6, c7, rfl⟩
theorem list2' {α : Type} {cs : List α} (h : cs.length = 2) : ∃ c0 c1, cs = [c0, c1] := by
  match cs, h with
  | [c0, c1], _ => exact ⟨c0, c1, rfl⟩
set_option maxRecDepth 100000 in
theorem open_setF {f F : Nat} (hF : f ≤ F) {cs : List Value} {x : DataW H × List MemPlace} (h : DataW.trod enc Tryz.prog w base spare held f 59 cs = some x) (hw : Lt 59 x.1) :
    ∃ (z : Sx (gf F)) (a : Option Addr) (c : Nat), cs = (KS (gf F)).cs z a c ∧ (KS (gf F)).dp Any w z a c := by
  obtain ⟨xs, m, hm, rfl, hlen, hxl, hf⟩ := DataW.trod_struct Tryz.underlying59 h
  rw [cellsSx] at hlen
  obtain ⟨c0, c1, c2, c3, c4, c5, c6, c7, rfl⟩ := list8 hlen
  obtain ⟨x0, x1, rfl⟩ := list2' (hxl.trans rfl)
  have h0 : DataW.trod enc Tryz.prog w base spare held m 9 [c0] = some x0 := take_as (cs := [c0, c1, c2, c3, c4, c5, c6, c7]) (hf 0 _ rfl) cellsS
  have h1 : DataW.trod enc Tryz.prog w base spare held m 51 [c1, c2, c3, c4, c5, c6, c7] = some x1 := take_as (cs := [c1, c2, c3, c4, c5, c6, c7]) (hf 1 _ rfl) cellsE
  obtain ⟨s, e0, _, _⟩ := DataW.trod_string Tryz.underlying9 h0
  have hw1 : Lt 51 x1.1 := fun n hn => hw n (by
    simp only [DataW.weights, Tryz.underlying59]
    exact DataW.weights_mem_each (j := 1) rfl rfl n hn)
  obtain ⟨y, a, c, e1, hd⟩ := open_exF (F := F) (by omega) h1 hw1
  simp only [List.cons.injEq, and_true] at e0
  subst e0
  rw [e1]
  exact ⟨⟨s, y⟩, a, c, rfl, hd⟩
theorem open_setsF {f F : Nat} (hF : f ≤ F) {cs : List Value} {x : DataW H × List MemPlace} (h : DataW.trod enc Tryz.prog w base spare held f 24 cs = some x) (hw : Lt 24 x.1) :
    ∃ (A : Option Addr) (c : Nat) (l : List (Sx (gf F))), cs = [.slice A l.length c] ∧ RdK (KS (gf F)) Any w A c l :=
  open_rd (KS (gf F)) Tryz.underlying24 cellsSx bytesSx h hw (fun m hm cs' y hy hwy => open_setF (by omega) hy hwy)
set_option maxRecDepth 100000 in
theorem open_colF {f : Nat} {cs : List Value} {x : DataW H × List MemPlace} (h : DataW.trod enc Tryz.prog w base spare held f 82 cs = some x) : ∃ (z : Cl) (a : Option Addr) (c : Nat), cs = KC.cs z a c ∧ KC.dp Any w z a c := by
  obtain ⟨xs, m, hm, rfl, hlen, hxl, hf⟩ := DataW.trod_struct Tryz.underlying82 h
  rw [cellsCl] at hlen
  obtain ⟨c0, c1, c2, rfl⟩ := list3 hlen
  obtain ⟨x0, x1, x2, rfl⟩ := list3 (hxl.trans rfl)
  have h0 : DataW.trod enc Tryz.prog w base spare held m 9 [c0] = some x0 := take_as (cs := [c0, c1, c2]) (hf 0 _ rfl) cellsS
  have h1 : DataW.trod enc Tryz.prog w base spare held m 3 [c1] = some x1 := take_as (cs := [c1, c2]) (hf 1 _ rfl) cellsI
  have h2 : DataW.trod enc Tryz.prog w base spare held m 4 [c2] = some x2 := take_as (cs := [c2]) (hf 2 _ rfl) cellsB
  obtain ⟨s, e0, _, _⟩ := DataW.trod_string Tryz.underlying9 h0
  obtain ⟨k, e1, _, _⟩ := DataW.trod_int Tryz.underlying3 h1
  obtain ⟨b, e2, _⟩ := DataW.trod_bool Tryz.underlying4 h2
  simp only [List.cons.injEq, and_true] at e0 e1 e2
  subst e0 e1 e2
  exact ⟨⟨s, k, b⟩, none, 0, rfl, trivial⟩
theorem open_colsF {f : Nat} {cs : List Value} {x : DataW H × List MemPlace} (h : DataW.trod enc Tryz.prog w base spare held f 22 cs = some x) (hw : Lt 22 x.1) :
    ∃ (A : Option Addr) (c : Nat) (l : List Cl), cs = [.slice A l.length c] ∧ RdK KC Any w A c l :=
  open_rd KC Tryz.underlying22 cellsCl bytesCl h hw (fun m hm cs' y hy hwy => open_colF hy)
set_option maxRecDepth 100000 in
theorem open_ordF {f : Nat} {cs : List Value} {x : DataW H × List MemPlace} (h : DataW.trod enc Tryz.prog w base spare held f 85 cs = some x) : ∃ (z : Od) (a : Option Addr) (c : Nat), cs = KO.cs z a c ∧ KO.dp Any w z a c := by
  obtain ⟨xs, m, hm, rfl, hlen, hxl, hf⟩ := DataW.trod_struct Tryz.underlying85 h
  rw [cellsOd] at hlen
  obtain ⟨c0, c1, rfl⟩ := list2' hlen
  obtain ⟨x0, x1, rfl⟩ := list2' (hxl.trans rfl)
  have h0 : DataW.trod enc Tryz.prog w base spare held m 3 [c0] = some x0 := take_as (cs := [c0, c1]) (hf 0 _ rfl) cellsI
  have h1 : DataW.trod enc Tryz.prog w base spare held m 4 [c1] = some x1 := take_as (cs := [c1]) (hf 1 _ rfl) cellsB
  obtain ⟨k, e0, _, _⟩ := DataW.trod_int Tryz.underlying3 h0
  obtain ⟨b, e1, _⟩ := DataW.trod_bool Tryz.underlying4 h1
  simp only [List.cons.injEq, and_true] at e0 e1
  subst e0 e1
  exact ⟨⟨k, b⟩, none, 0, rfl, trivial⟩
theorem open_ordsF {f : Nat} {cs : List Value} {x : DataW H × List MemPlace} (h : DataW.trod enc Tryz.prog w base spare held f 26 cs = some x) (hw : Lt 26 x.1) :
    ∃ (A : Option Addr) (c : Nat) (l : List Od), cs = [.slice A l.length c] ∧ RdK KO Any w A c l :=
  open_rd KO Tryz.underlying26 cellsOd bytesOd h hw (fun m hm cs' y hy hwy => open_ordF hy)
theorem list14 {α : Type} {cs : List α} (h : cs.length = 14) : ∃ c0 c1 c2 c3 c4 c5 c6 c7 c8 c9 c10 c11 c12 c13, cs = [c0, c1, c2, c3, c4, c5, c6, c7, c8, c9, c10, c11, c12, c13] := by
  match cs, h with
  | [c0, c1, c2, c3, c4, c5, c6, c7, c8, c9, c10, c11, c12, c13], _ => exact ⟨c0, c1, c2, c3, c4, c5, c6, c7, c8, c9, c10, c11, c12, c13, rfl⟩

set_option maxRecDepth 100000 in
set_option maxHeartbeats 4000000 in
theorem open_stF {f F : Nat} (hF : f ≤ F) {cs : List Value} {x : DataW H × List MemPlace} (h : DataW.trod enc Tryz.prog w base spare held f 28 cs = some x) (hw : Lt 28 x.1) :
    ∃ (z : St (gf F)) (hs : Hs), cs = (z.cs hs).toList ∧ RdSt Any w z hs := by
  obtain ⟨xs, m, hm, rfl, hlen, hxl, hf⟩ := DataW.trod_struct Tryz.underlying28 h
  rw [cellsSt14] at hlen
  obtain ⟨c0, c1, c2, c3, c4, c5, c6, c7, c8, c9, c10, c11, c12, c13, rfl⟩ := list14 hlen
  obtain ⟨x0, x1, x2, x3, x4, x5, x6, x7, x8, x9, x10, x11, x12, x13, rfl⟩ := list14 (hxl.trans rfl)
  clear hlen hxl h
  have h0 : DataW.trod enc Tryz.prog w base spare held m 3 [c0] = some x0 := take_as (cs := [c0, c1, c2, c3, c4, c5, c6, c7, c8, c9, c10, c11, c12, c13]) (hf 0 _ rfl) cellsI
  have h1 : DataW.trod enc Tryz.prog w base spare held m 9 [c1] = some x1 := take_as (cs := [c1, c2, c3, c4, c5, c6, c7, c8, c9, c10, c11, c12, c13]) (hf 1 _ rfl) cellsS
  have h2 : DataW.trod enc Tryz.prog w base spare held m 22 [c2] = some x2 := take_as (cs := [c2, c3, c4, c5, c6, c7, c8, c9, c10, c11, c12, c13]) (hf 2 _ rfl) cellsLC
  have h3 : DataW.trod enc Tryz.prog w base spare held m 9 [c3] = some x3 := take_as (cs := [c3, c4, c5, c6, c7, c8, c9, c10, c11, c12, c13]) (hf 3 _ rfl) cellsS
  have h4 : DataW.trod enc Tryz.prog w base spare held m 9 [c4] = some x4 := take_as (cs := [c4, c5, c6, c7, c8, c9, c10, c11, c12, c13]) (hf 4 _ rfl) cellsS
  have h5 : DataW.trod enc Tryz.prog w base spare held m 23 [c5] = some x5 := take_as (cs := [c5, c6, c7, c8, c9, c10, c11, c12, c13]) (hf 5 _ rfl) cellsR
  have h6 : DataW.trod enc Tryz.prog w base spare held m 24 [c6] = some x6 := take_as (cs := [c6, c7, c8, c9, c10, c11, c12, c13]) (hf 6 _ rfl) cellsLS
  have h7 : DataW.trod enc Tryz.prog w base spare held m 25 [c7] = some x7 := take_as (cs := [c7, c8, c9, c10, c11, c12, c13]) (hf 7 _ rfl) cellsL
  have h8 : DataW.trod enc Tryz.prog w base spare held m 9 [c8] = some x8 := take_as (cs := [c8, c9, c10, c11, c12, c13]) (hf 8 _ rfl) cellsS
  have h9 : DataW.trod enc Tryz.prog w base spare held m 25 [c9] = some x9 := take_as (cs := [c9, c10, c11, c12, c13]) (hf 9 _ rfl) cellsL
  have h10 : DataW.trod enc Tryz.prog w base spare held m 25 [c10] = some x10 := take_as (cs := [c10, c11, c12, c13]) (hf 10 _ rfl) cellsL
  have h11 : DataW.trod enc Tryz.prog w base spare held m 25 [c11] = some x11 := take_as (cs := [c11, c12, c13]) (hf 11 _ rfl) cellsL
  have h12 : DataW.trod enc Tryz.prog w base spare held m 26 [c12] = some x12 := take_as (cs := [c12, c13]) (hf 12 _ rfl) cellsLO
  have h13 : DataW.trod enc Tryz.prog w base spare held m 3 [c13] = some x13 := take_as (cs := [c13]) (hf 13 _ rfl) cellsI
  have hwj : ∀ (j : Nat) (t : TypeId) (d : DataW H × List MemPlace), ([x0, x1, x2, x3, x4, x5, x6, x7, x8, x9, x10, x11, x12, x13] : List (DataW H × List MemPlace))[j]? = some d → ((Tryz.prog.fieldsOf 28).toList.map (·.type))[j]? = some t → Lt t d.1 := fun j t d hd ht n hn => hw n (by
    simp only [DataW.weights, Tryz.underlying28]
    refine DataW.weights_mem_each (j := j) ?_ ?_ n hn
    · exact ht
    · rw [List.getElem?_map, hd]; rfl)
  clear hf hw
  obtain ⟨v0, e0, _, _⟩ := DataW.trod_int Tryz.underlying3 h0
  obtain ⟨v1, e1, _, _⟩ := DataW.trod_string Tryz.underlying9 h1
  obtain ⟨A2, k2, v2, e2, r2⟩ := open_colsF h2 (hwj 2 22 x2 rfl rfl)
  obtain ⟨v3, e3, _, _⟩ := DataW.trod_string Tryz.underlying9 h3
  obtain ⟨v4, e4, _, _⟩ := DataW.trod_string Tryz.underlying9 h4
  obtain ⟨A5, k5, v5, e5, r5⟩ := open_rowsF (F := F) (by omega) h5 (hwj 5 23 x5 rfl rfl)
  obtain ⟨A6, k6, v6, e6, r6⟩ := open_setsF (F := F) (by omega) h6 (hwj 6 24 x6 rfl rfl)
  obtain ⟨A7, k7, v7, e7, r7⟩ := open_exprsF (F := F) (by omega) h7 (hwj 7 25 x7 rfl rfl)
  obtain ⟨v8, e8, _, _⟩ := DataW.trod_string Tryz.underlying9 h8
  obtain ⟨A9, k9, v9, e9, r9⟩ := open_exprsF (F := F) (by omega) h9 (hwj 9 25 x9 rfl rfl)
  obtain ⟨A10, k10, v10, e10, r10⟩ := open_exprsF (F := F) (by omega) h10 (hwj 10 25 x10 rfl rfl)
  obtain ⟨A11, k11, v11, e11, r11⟩ := open_exprsF (F := F) (by omega) h11 (hwj 11 25 x11 rfl rfl)
  obtain ⟨A12, k12, v12, e12, r12⟩ := open_ordsF h12 (hwj 12 26 x12 rfl rfl)
  obtain ⟨v13, e13, _, _⟩ := DataW.trod_int Tryz.underlying3 h13
  simp only [List.cons.injEq, and_true] at e0 e1 e2 e3 e4 e5 e6 e7 e8 e9 e10 e11 e12 e13
  subst e0 e1 e2 e3 e4 e5 e6 e7 e8 e9 e10 e11 e12 e13
  exact ⟨⟨v0, v1, v2, v3, v4, v5, v6, v7, v8, v9, v10, v11, v12, v13⟩, ⟨⟨A2, k2⟩, ⟨A5, k5⟩, ⟨A6, k6⟩, ⟨A7, k7⟩, ⟨A9, k9⟩, ⟨A10, k10⟩, ⟨A11, k11⟩, ⟨A12, k12⟩⟩, rfl, ⟨r2, r5, r6, r7, r9, r10, r11, r12⟩⟩
set_option maxRecDepth 100000 in
theorem open_stmt {r : Reach} {b0 : Nat} {v : Value} {d : DataW H} {q : List MemPlace} (hv : Value.okWide Tryz.prog w r b0 28 v) (h : DataW.Trod enc Tryz.prog w base spare held 28 v d q) (hw : Lt 28 d) :
    ∃ f0 : Nat, ∀ F, f0 ≤ F → ∃ (z : St (gf F)) (hs : Hs), v = z.val hs ∧ RdSt Any w z hs := by
  obtain ⟨cs, rfl, hsz⟩ := okWide_struct Tryz.underlying28 hv
  obtain ⟨fuel, hf⟩ := h
  refine ⟨fuel, fun F hF => ?_⟩
  obtain ⟨z, hs, e, hr⟩ := open_stF hF hf hw
  refine ⟨z, hs, ?_, hr⟩
  have e2 : cs.toList = (z.cs hs).toList := by simpa [Value.cells] using e
  have e3 : cs = z.cs hs := Array.toList_inj.1 e2
  rw [e3]
end
end Go.Proofs.YtnbgnofbeklmkaaGreatDoor
/- SyntaxOwn answers true: the walk. Conditions: a statement that is read in memory; the tables that strconv and strings read, as they are laid. -/
namespace Go.Proofs.YtnbgnofbeklmkaaGreatDoor
open Go.RowKit
set_option linter.unusedSimpArgs false
set_option linter.unusedVariables false

theorem eqX_one {α : Type} (x : α) : eqX x x = true := eqX_iff.2 rfl
set_option maxHeartbeats 8000000 in
set_option maxRecDepth 100000 in
theorem owns_walk {n : Nat} (x : St n) (h : Hs) (w : World) (hr : RdSt Any w x h) (he : Env w.heap.size w) :
    Calls Tryz.prog 5 #[x.val h] w fun e w' => e = .returned (.bool true) ∧ Below w.heap.size w w' := by
  have HCp := Lib.hid fun (w' : World) (hb : Below w.heap.size w w') => copyStmt_any x h w' (hr.below hb)
  have HP := Lib.hid fun (h' : Hs) (w' : World) (hb : Below w.heap.size w w') (r : RdSt Any w' x h') => sPrint_any x h' w' r ((he.below hb).mono hb.size)
  have HC := Lib.hid fun (h' : Hs) (w' : World) (r : RdSt Any w' x h') => sCheck_any x h' w' r
  have HM := Lib.hid fun (h' : Hs) (w' : World) (r : RdSt Any w' x h') => sSame_any x x h' h' w' r r
  have HS := Lib.hid fun (h' : Hs) (w' : World) (hb : Below w.heap.size w w') (r : RdSt Any w' x h') => (by have h2 := sameStmt_any x x h' h w' r (hr.below hb); rw [eqX_one] at h2; exact h2 : Calls Tryz.prog 19 #[x.val h', x.val h] w' fun e w2 => e = .returned (.bool true) ∧ Below w'.heap.size w' w2)
  have HA := Lib.hid fun (w' : World) (hb : Below w.heap.size w w') => alive_any w.heap.size w' (he.below hb) hb.size
  clear hr he
  generalize stX x = TX at *
  generalize (decide (chkSt x = 0) && decide (chkSt x = 0) && eqX x x) = QQ at *
  generalize chkSt x = EX at *
  have hTT : (TX.toList == TX.toList) = true := by simp
  have hEE : (EX == EX) = true := by simp
  obtain ⟨kind, tb, cols, key, ix, rows, sets, items, jn, on, wh, gr, ord, lim⟩ := x
  obtain ⟨⟨aC, ac1⟩, ⟨aR, ac2⟩, ⟨aS, ac3⟩, ⟨aI, ac4⟩, ⟨aO, ac5⟩, ⟨aW, ac6⟩, ⟨aG, ac7⟩, ⟨aD, ac8⟩⟩ := h
  unfold St.val St.cs at HCp HP HC HM HS ⊢
  dsimp only at HCp HP HC HM HS ⊢
  go_enter Tryz.func5, Tryz.ntmps5
  go_upto_region 1 with fail
  have hX := heap_alloc_new w (.cells #[.int .i64 kind, .string tb, .slice aC cols.length ac1, .string key, .string ix, .slice aR rows.length ac2, .slice aS sets.length ac3, .slice aI items.length ac4, .string jn, .slice aO on.length ac5, .slice aW wh.length ac6, .slice aG gr.length ac7, .slice aD ord.length ac8, .int .i64 lim] 28)
  have HB := Lib.hid (below1 w (.cells #[.int .i64 kind, .string tb, .slice aC cols.length ac1, .string key, .string ix, .slice aR rows.length ac2, .slice aS sets.length ac3, .slice aI items.length ac4, .string jn, .slice aO on.length ac5, .slice aW wh.length ac6, .slice aG gr.length ac7, .slice aD ord.length ac8, .int .i64 lim] 28))
  generalize (w.alloc (.cells #[.int .i64 kind, .string tb, .slice aC cols.length ac1, .string key, .string ix, .slice aR rows.length ac2, .slice aS sets.length ac3, .slice aI items.length ac4, .string jn, .slice aO on.length ac5, .slice aW wh.length ac6, .slice aG gr.length ac7, .slice aD ord.length ac8, .int .i64 lim] 28)) = W at hX HB ⊢
  obtain ⟨x0, x1, x2, x3, x4, x5, x6, x7, x8, x9, x10, x11, x12, x13⟩ := cells14 hX
  go_upto_region 3 with (go_at_call 20; refine (HA.out _ HB.out).mono ?_; rintro e w1 ⟨rfl, hb⟩; replace hX := (hb.block _ (heap_lt hX)).trans hX; replace HB := Lib.hid (below_call hb HB.out HB.out.size); clear hb x0 x1 x2 x3 x4 x5 x6 x7 x8 x9 x10 x11 x12 x13; obtain ⟨x0, x1, x2, x3, x4, x5, x6, x7, x8, x9, x10, x11, x12, x13⟩ := cells14 hX)
  go_upto_region 4 with (go_at_call 11; refine (HCp.out _ HB.out).mono ?_; rintro e w2 ⟨⟨⟨bC, bc1⟩, ⟨bR, bc2⟩, ⟨bS, bc3⟩, ⟨bI, bc4⟩, ⟨bO, bc5⟩, ⟨bW, bc6⟩, ⟨bG, bc7⟩, ⟨bD, bc8⟩⟩, rfl, hrd, hb⟩)
  have hO := heap_alloc_new w2 (.cells #[.int .i64 kind, .string tb, .slice bC cols.length bc1, .string key, .string ix, .slice bR rows.length bc2, .slice bS sets.length bc3, .slice bI items.length bc4, .string jn, .slice bO on.length bc5, .slice bW wh.length bc6, .slice bG gr.length bc7, .slice bD ord.length bc8, .int .i64 lim] 28)
  replace hX := heap_on ((hb.block _ (heap_lt hX)).trans hX) (.cells #[.int .i64 kind, .string tb, .slice bC cols.length bc1, .string key, .string ix, .slice bR rows.length bc2, .slice bS sets.length bc3, .slice bI items.length bc4, .string jn, .slice bO on.length bc5, .slice bW wh.length bc6, .slice bG gr.length bc7, .slice bD ord.length bc8, .int .i64 lim] 28)
  have HR := Lib.hid (RdSt.below (RdSt.any hrd) (below1 w2 (.cells #[.int .i64 kind, .string tb, .slice bC cols.length bc1, .string key, .string ix, .slice bR rows.length bc2, .slice bS sets.length bc3, .slice bI items.length bc4, .string jn, .slice bO on.length bc5, .slice bW wh.length bc6, .slice bG gr.length bc7, .slice bD ord.length bc8, .int .i64 lim] 28)))
  have hB0 := below_call hb HB.out HB.out.size
  replace HB := Lib.hid (hB0.alloc hB0.size (.cells #[.int .i64 kind, .string tb, .slice bC cols.length bc1, .string key, .string ix, .slice bR rows.length bc2, .slice bS sets.length bc3, .slice bI items.length bc4, .string jn, .slice bO on.length bc5, .slice bW wh.length bc6, .slice bG gr.length bc7, .slice bD ord.length bc8, .int .i64 lim] 28))
  clear hB0 hb hrd x0 x1 x2 x3 x4 x5 x6 x7 x8 x9 x10 x11 x12 x13
  generalize hbo : w2.heap.size = bo at *
  clear hbo
  generalize (w2.alloc (.cells #[.int .i64 kind, .string tb, .slice bC cols.length bc1, .string key, .string ix, .slice bR rows.length bc2, .slice bS sets.length bc3, .slice bI items.length bc4, .string jn, .slice bO on.length bc5, .slice bW wh.length bc6, .slice bG gr.length bc7, .slice bD ord.length bc8, .int .i64 lim] 28)) = W2 at *
  obtain ⟨x0, x1, x2, x3, x4, x5, x6, x7, x8, x9, x10, x11, x12, x13⟩ := cells14 hX
  obtain ⟨o0, o1, o2, o3, o4, o5, o6, o7, o8, o9, o10, o11, o12, o13⟩ := cells14 hO
  go_wp2_with (first | (go_at_call 12; refine (HP.out _ _ HB.out HR.out).mono ?_; rintro e v ⟨rfl, hb⟩; replace hX := (hb.block _ (heap_lt hX)).trans hX; replace hO := (hb.block _ (heap_lt hO)).trans hO; replace HR := Lib.hid (RdSt.below HR.out hb); replace HB := Lib.hid (below_call hb HB.out HB.out.size); clear hb x0 x1 x2 x3 x4 x5 x6 x7 x8 x9 x10 x11 x12 x13 o0 o1 o2 o3 o4 o5 o6 o7 o8 o9 o10 o11 o12 o13; obtain ⟨x0, x1, x2, x3, x4, x5, x6, x7, x8, x9, x10, x11, x12, x13⟩ := cells14 hX; obtain ⟨o0, o1, o2, o3, o4, o5, o6, o7, o8, o9, o10, o11, o12, o13⟩ := cells14 hO) | (go_at_call 15; refine (HC.out _ _ HR.out).mono ?_; rintro e v ⟨rfl, hb⟩; replace hX := (hb.block _ (heap_lt hX)).trans hX; replace hO := (hb.block _ (heap_lt hO)).trans hO; replace HR := Lib.hid (RdSt.below HR.out hb); replace HB := Lib.hid (below_call hb HB.out HB.out.size); clear hb x0 x1 x2 x3 x4 x5 x6 x7 x8 x9 x10 x11 x12 x13 o0 o1 o2 o3 o4 o5 o6 o7 o8 o9 o10 o11 o12 o13; obtain ⟨x0, x1, x2, x3, x4, x5, x6, x7, x8, x9, x10, x11, x12, x13⟩ := cells14 hX; obtain ⟨o0, o1, o2, o3, o4, o5, o6, o7, o8, o9, o10, o11, o12, o13⟩ := cells14 hO) | (go_at_call 21; refine (HM.out _ _ HR.out).mono ?_; rintro e v ⟨rfl, hb⟩; replace hX := (hb.block _ (heap_lt hX)).trans hX; replace hO := (hb.block _ (heap_lt hO)).trans hO; replace HR := Lib.hid (RdSt.below HR.out hb); replace HB := Lib.hid (below_call hb HB.out HB.out.size); clear hb x0 x1 x2 x3 x4 x5 x6 x7 x8 x9 x10 x11 x12 x13 o0 o1 o2 o3 o4 o5 o6 o7 o8 o9 o10 o11 o12 o13; obtain ⟨x0, x1, x2, x3, x4, x5, x6, x7, x8, x9, x10, x11, x12, x13⟩ := cells14 hX; obtain ⟨o0, o1, o2, o3, o4, o5, o6, o7, o8, o9, o10, o11, o12, o13⟩ := cells14 hO) | (go_at_call 19; refine (HS.out _ _ HB.out HR.out).mono ?_; rintro e v ⟨rfl, hb⟩; replace hX := (hb.block _ (heap_lt hX)).trans hX; replace hO := (hb.block _ (heap_lt hO)).trans hO; replace HR := Lib.hid (RdSt.below HR.out hb); replace HB := Lib.hid (below_call hb HB.out HB.out.size); clear hb x0 x1 x2 x3 x4 x5 x6 x7 x8 x9 x10 x11 x12 x13 o0 o1 o2 o3 o4 o5 o6 o7 o8 o9 o10 o11 o12 o13; obtain ⟨x0, x1, x2, x3, x4, x5, x6, x7, x8, x9, x10, x11, x12, x13⟩ := cells14 hX; obtain ⟨o0, o1, o2, o3, o4, o5, o6, o7, o8, o9, o10, o11, o12, o13⟩ := cells14 hO))
  go_ret
  exact ⟨rfl, HB.out⟩
end Go.Proofs.YtnbgnofbeklmkaaGreatDoor
namespace Go.Proofs.YtnbgnofbeklmkaaGreatDoor.syntaxOwn
open Go.ChangeShapes Go.WideShapes Go.ChangeAt Go.RowKit
open Go.Proofs.YtnbgnofbeklmkaaGreatDoor Go.Proofs.YtnbgnofbeklmkaaGreatDoor.Sy
set_option linter.unusedSimpArgs false
set_option linter.unusedVariables false

theorem recS : Tryz.prog.readableRec 28 = true := by kernel_rfl
theorem rowS : 28 < Tryz.prog.types.size := of_decide_eq_true (by kernel_rfl)
set_option maxHeartbeats 1000000 in
set_option maxRecDepth 100000 in
theorem lifted (os : Os) (started : os.Started) (H : Type) (enc : TypeId × Value → H) :
    ReturnsInHanded {} Tryz.checked os 5 .any (fun w args => (Rows.syntaxOwnSpec.pre enc Tryz.prog Tryz.f5 [] false w args ∧ laidMetH Tryz.prog laid w) ∧ sizedMet enc Tryz.prog Tryz.f5 (OpenSpec.ofChange Rows.syntaxOwnSpec) false w args)
      (Rows.syntaxOwnSpec.post enc Tryz.prog Tryz.f5 false true false false) := by
  refine returns_and_shaped (C := Tryz.checked) (X := fun w _ => laidMetH Tryz.prog laid w) (fun _ _ _ hh h => h.of_heap hh) own started (by kernel_rfl) Tryz.func5
    (ChangeSpec.witness_shaped (enc := enc) (C := Tryz.checked) (os := os) (X := fun w _ => laidMetH Tryz.prog laid w) false (World.laidAll Tryz.prog os laid) #[.agg #[.int .i64 0, .string ⟨#[]⟩, .slice none 0 0, .string ⟨#[]⟩, .string ⟨#[]⟩, .slice none 0 0, .slice none 0 0, .slice none 0 0, .string ⟨#[]⟩, .slice none 0 0, .slice none 0 0, .slice none 0 0, .slice none 0 0, .int .i64 0]] 8 (World.laidAll_os _ _ _) (start_shaped os _) (by kernel_rfl) (by kernel_rfl) (by kernel_rfl) (start_met os _)) ?_
  intro W base args ds gs before hval0 hW hsz0 hL hsh
  have hsz : (DataW.weightsEach Tryz.prog (Tryz.f5.params.toList ++ Rows.syntaxOwnSpec.plain.varTypes Tryz.prog) (ds ++ gs)).all (· ≤ reachBytes) = true := hsz0
  clear hsz0
  have hval : ∀ (j : Nat) t v, Tryz.f5.params[j]? = some t → args[j]? = some v → Value.okWide Tryz.prog W .any base t v := hval0
  have hW' := hW
  obtain ⟨p, q, hA0, hV, rfl, _, _⟩ := hW
  have hA : DataW.TrodAll enc Tryz.prog W 0 (fun _ => true) true Tryz.f5.params.toList args.toList ds p := hA0
  rw [Tryz.params5] at hA hval hsz
  obtain ⟨v0, d0, rfl, rfl, h0⟩ := trodAll_one hA
  obtain ⟨rfl, rfl⟩ := trodVars_none hV
  obtain ⟨f0, g0⟩ := open_stmt (hval 0 28 v0 rfl rfl) h0 (lt_one hsz (j := 0) rfl rfl)
  obtain ⟨z0, hs0, rfl, hr0⟩ := g0 f0 (Nat.le_refl _)
  clear hA0 hval0 hsz
  simp only [List.append_nil] at hW'
  have hlt0 : ∀ y ∈ p, y.block < W.heap.size := fun y hy => hW'.lt y hy
  refine (owns_walk z0 hs0 W hr0  (env_of hL hsh)).mono fun e W' ⟨he, hB⟩ => ?_
  subst he
  exact ⟨_, rfl, _, _, _, [], p, [], hW', trodAll_mk1 (shut_bool Tryz.underlying4 _), trodAll_mk1 (Below.trod laidOut recS rowS h0 hB hlt0), rfl, hB.frame _, fun h => by cases h⟩

theorem holds : Rows.SyntaxOwnSaid :=
  OpenClaim.holds_of_wide 5 Tryz.f5 rfl rfl rfl rfl rfl rfl rfl ⟨rfl, rfl, rfl, rfl, rfl⟩ rfl rfl rfl rfl rfl (by kernel_rfl) Tryz.func5 (by kernel_rfl)
    (of_decide_eq_true (by kernel_rfl)) (by unfold Func.isWrapper; first | (rw [if_pos (by decide +kernel)]; kernel_rfl) | (rw [if_neg (by decide +kernel)]; exact ⟨rfl, rfl⟩))
    (fun os started H enc _ => lifted os started H enc)

theorem card : Rows.SyntaxOwnCardSaid :=
  Claim7.holds_tied_plain_at .later [] [.data, .data, .data, .data, .pinned] true (true, "8d03d6588a16a6bb356fa2c5186746eaad4358375bda485b4d9be1d676590a21") true
    holds (fun _ h => by cases h) (by kernel_rfl) (fun _ h => by cases h) syntaxOwn_row_tie rfl ⟨rfl, rfl⟩ (by kernel_rfl) rfl
    (fun f fn hf hfn => by
      obtain rfl : f = 5 := Option.some.inj ((show Tryz.prog.funcNamed "switchback/switchbacklaw04.SyntaxOwn" = some 5 by kernel_rfl).symm.trans hf) |>.symm
      obtain rfl : fn = Tryz.f5 := (Option.some.inj (Tryz.func5.symm.trans hfn)).symm
      exact ⟨by kernel_rfl, fun j t ht => by
        rw [Tryz.params5] at ht
        have hm : t ∈ [28] := by simpa using Array.mem_of_getElem? ht
        have hall : ([28].all fun u => !Tryz.prog.wantsStandIn u) = true := by kernel_rfl
        exact (show Tryz.prog.wantsStandIn t = false by simpa using List.all_eq_true.1 hall t hm)⟩)
    (by kernel_rfl)

end Go.Proofs.YtnbgnofbeklmkaaGreatDoor.syntaxOwn
namespace Go.Proofs.YtnbgnofbeklmkaaGreatDoor
theorem syntaxOwn_holds : Rows.SyntaxOwnCardSaid := syntaxOwn.card
#print axioms syntaxOwn_holds
end Go.Proofs.YtnbgnofbeklmkaaGreatDoor
