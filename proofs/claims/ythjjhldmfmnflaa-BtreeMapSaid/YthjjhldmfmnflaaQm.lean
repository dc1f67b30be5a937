/- Lists of texts and of truths as arguments. Conditions: none. -/
import Derived.Test.YthjjhldmfmnflaaQl
import Derived.Test.YthjjhldmfmnflaaQj
import Derived.Test.YthjjhldmfmnflaaQXy
/- A pair taken out of a state: the walk of Delete. Conditions: a state that is read in memory, of few keys in each node. -/
namespace Go.Proofs.Ythjjhldmfmnflaa
open Go.RowKit
set_option linter.unusedSimpArgs false
set_option linter.unusedVariables false

/-- What Delete answers. -/
def DelPost (R : Option (Nat × Tr)) (s : List Nd × Int) (k : Key) (w : World) (e : Ending) (w' : World) : Prop :=
  Below w.heap.size w w' ∧ match R with
  | none => e = .returned (.tuple #[.agg #[.slice none 0 0, .int .i64 0], .bool false, .int .i64 9])
  | some (n, t) => ∃ v, e = .returned (.tuple #[v, .bool (wasT n t k), .int .i64 0]) ∧ StateB w' w.heap.size v (if wasT n t k = true then layS (rootT n (delT n t k)).1 (rootT n (delT n t k)).2 else s)

set_option maxRecDepth 100000 in
set_option maxHeartbeats 2000000 in
theorem delete_state (nodes : List Nd) (n c : Nat) (A : Option Addr) (root : Int) (k : Key) (w : World) (hS : RdS w A n nodes) (hW : Wfn nodes) (hr : -9223372036854775808 ≤ root ∧ root ≤ 9223372036854775807) (hF : Few nodes) (hN : nodes.length ≤ 1000000) :
    Calls Try.prog 25 #[.agg #[.slice A n c, .int .i64 root], .string k.s] w (DelPost (rdS nodes root) (nodes, root) k w) := by
  have HRD := Lib.hid fun (W : World) (hb : Below w.heap.size w W) => read_any nodes n c A root W (hS.below hb) hW hr
  have HCP := Lib.hid fun (W : World) (hb : Below w.heap.size w W) => copied_any nodes n c A root W (hS.below hb) hF hN
  clear hS hW hr hF hN
  cases hR : rdS nodes root with
  | none =>
    rw [hR] at HRD
    go_enter Try.func25, Try.ntmps25
    go_upto_region 2 with (first | (go_at_call 26; (with_reducible refine (HRD.out _ (below2 _ _ _)).mono ?_); rintro e w1 ⟨rfl, hb1⟩; have HB1 := Lib.hid hb1; clear hb1))
    have hrc : RC w1 (w.heap.size + 1) := (HB1.out.block _ (by simp)).trans (by have := heap_alloc_new (w.alloc (.cells #[.slice A n c, .int .i64 root] 27)) (.cells #[.slice none 0 0, .int .i64 0] 27); rw [World.size_alloc] at this; exact this)
    have hbw := thn (below2 w _ _) HB1.out
    obtain ⟨p0, p1, f0, f1⟩ := hrc.cells
    have HE := Lib.hid (hrc.end_ (.slice none 0 0) (.int .i64 0))
    clear HB1 HRD HCP hrc
    go_wp2
    obtain ⟨r0, r1, _⟩ := HE.out
    exact bodyPost_ret (v := .tuple #[.agg #[.slice none 0 0, .int .i64 0], .bool false, .int .i64 9]) (by simp [results, Try.results25, go_sem, r0, r1]) rfl ⟨(hbw.setCell (p := ⟨w.heap.size + 1, 0, none⟩) (by simp) _).setCell (p := ⟨w.heap.size + 1, 1, none⟩) (by simp) _, rfl⟩
  | some r =>
    obtain ⟨m, t⟩ := r
    obtain ⟨hG, hp, _, _⟩ := rdS_ok hR
    rw [hR] at HRD
    have hok := del_ok m hG k k (by omega)
    have hgd := del_good hG k k
    have hda := fun (g : Nat) (F : List Nat) (w1 : World) (h : RdN m w1 g t F) (h2 : F.Nodup) => delete_any m (min m 1) none none t g F k w1 hG (by omega) h h2
    show Calls _ _ _ _ fun e w' => Below w.heap.size w w' ∧ ∃ v, e = .returned (.tuple #[v, .bool (wasT m t k), .int .i64 0]) ∧ StateB w' w.heap.size v (if wasT m t k = true then layS (rootT m (delT m t k)).1 (rootT m (delT m t k)).2 else (nodes, root))
    have hlen2 : (prs m (delT m t k)).length ≤ 2048 := by
      rw [hok.2.1, aft_laid]
      exact Nat.le_trans (List.length_filter_le _ _) hp
    have HOK := Lib.hid hok.1
    have HG2 := Lib.hid hgd.1
    have HLL := Lib.hid (lay_few hgd.1 (by rw [hgd.2.1, ← hok.2.1]; exact hlen2))
    have HDA := Lib.hid hda
    clear hok hgd hda hlen2 hp
    generalize wasT m t k = B at *
    go_enter Try.func25, Try.ntmps25
    go_upto_region 2 with (first | (go_at_call 26; (with_reducible refine (HRD.out _ (below2 _ _ _)).mono ?_); rintro e w1 ⟨g, F, rfl, hrd, hF, hnd, hb1⟩; have HB1 := Lib.hid hb1; have HTR := Lib.hid hrd; have HFF := Lib.hid hF; have HND := Lib.hid hnd; clear hb1 hrd hF hnd))
    have hrc : RC w1 (w.heap.size + 1) := (HB1.out.block _ (by simp)).trans (by have := heap_alloc_new (w.alloc (.cells #[.slice A n c, .int .i64 root] 27)) (.cells #[.slice none 0 0, .int .i64 0] 27); rw [World.size_alloc] at this; exact this)
    have hbx : w1.heap[w.heap.size]? = some (.cells #[.slice A n c, .int .i64 root] 27 (0, 0)) := (HB1.out.block _ (by simp; omega)).trans ((Below.heap_alloc _ _ _ (by simp)).trans (heap_alloc_new w _))
    have hbw := thn (below2 w _ _) HB1.out
    have hF1 : ∀ b ∈ F, w.heap.size + 1 < b := fun b hb => by have := HFF.out b hb; simp at this; omega
    have hsz : w.heap.size + 1 < w1.heap.size := heap_lt hrc
    have HPU := Lib.hid (HDA.out g F w1 HTR.out HND.out)
    go_upto_region 4 with fail
    cases B with
    | false =>
      go_upto_region 5 with (first | (go_at_call 39; (with_reducible refine HPU.out.mono ?_); rintro e w2 ⟨rfl, hu⟩; have HU := Lib.hid hu; clear hu))
      obtain ⟨F2, r2, n2, s2, f2⟩ := HU.out
      have hrc2 : RC w2 (w.heap.size + 1) := (f2.block _ hsz (fun h => by have := hF1 _ h; omega)).trans hrc
      have hbx2 : w2.heap[w.heap.size]? = some (.cells #[.slice A n c, .int .i64 root] 27 (0, 0)) := (f2.block _ (by omega) (fun h => by have := hF1 _ h; omega)).trans hbx
      have hbw2 := hbw.trans (f2.below (B := w.heap.size) (by omega) fun x hx => by have := hF1 x hx; omega)
      have b0 : w2.cell? ⟨w.heap.size, 0, none⟩ = some (.slice A n c) := by simp [World.cell?, hbx2]
      have b1 : w2.cell? ⟨w.heap.size, 1, none⟩ = some (.int .i64 root) := by simp [World.cell?, hbx2]
      have HC := Lib.hid (HCP.out w2 hbw2)
      have HRC := Lib.hid hrc2
      have HBW := Lib.hid hbw2
      clear hrc hbx hbw HPU HU r2 n2 s2 f2 hrc2 hbx2 hbw2 hF1 hsz HDA
      go_wp2_with (first | (go_at_call 40; (with_reducible refine HC.out.mono ?_); rintro e w5 ⟨v5, rfl, sb, hb5⟩; have HSB := Lib.hid sb; obtain ⟨A5, c5, hs5, rfl, _⟩ := sb; have hrc5 : RC w5 (w.heap.size + 1) := (hb5.block _ (heap_lt HRC.out)).trans HRC.out; have HB5 := Lib.hid (thn HBW.out hb5); obtain ⟨p0, p1, f0, f1⟩ := hrc5.cells; have HRC5 := Lib.hid hrc5; have HSZ := Lib.hid HBW.out.size; clear hb5 hrc5))
      obtain ⟨r0, r1, ho⟩ := HRC5.out.end_ (.slice A5 nodes.length c5) (.int .i64 root)
      have hst := (HSB.out.le (B' := w.heap.size) HSZ.out).keep (w' := (w5.setCell ⟨w.heap.size + 1, 0, none⟩ (.slice A5 nodes.length c5)).setCell ⟨w.heap.size + 1, 1, none⟩ (.int .i64 root)) fun b hb => ho b fun e => by subst e; exact hb _ _ HRC5.out
      exact bodyPost_ret (v := .tuple #[.agg #[(.slice A5 nodes.length c5), (.int .i64 root)], .bool false, .int .i64 0]) (by simp [results, Try.results25, go_sem, r0, r1]) rfl ⟨(HB5.out.setCell (p := ⟨w.heap.size + 1, 0, none⟩) (by simp) _).setCell (p := ⟨w.heap.size + 1, 1, none⟩) (by simp) _, _, rfl, by first | exact hst | (rw [if_neg (by decide)]; exact hst)⟩
    | true =>
      go_upto_region 6 with (first | (go_at_call 39; (with_reducible refine HPU.out.mono ?_); rintro e w2 ⟨rfl, hu⟩; have HU := Lib.hid hu; clear hu))
      obtain ⟨F2, r2, n2, s2, f2⟩ := HU.out
      have hrc3 : RC w2 (w.heap.size + 1) := (f2.block _ hsz (fun h => by have := hF1 _ h; omega)).trans hrc
      have hbw3 := hbw.trans (f2.below (B := w.heap.size) (by omega) fun x hx => by have := hF1 x hx; omega)
      have hF2 : ∀ b ∈ F2, w.heap.size + 1 < b := fun b hb => by
        rcases s2 b hb with h | h
        · exact hF1 b h
        · omega
      have h3s := heap_lt hrc3
      have hlen := HOK.out.len
      have HRT := Lib.hid (root_of m (delT m t k) g F2 w2 r2 n2 (by omega) (cs_few HOK.out (by omega)) HOK.out.shape HOK.out.leaf.2)
      clear hrc hbx hbw HPU HU r2 n2 s2 f2 hF1 hsz HDA HCP
      go_wp2_with (first
        | (go_at_call 38; (with_reducible refine HRT.out.mono ?_); rintro e w4 ⟨g', F3, rfl, r3, n3, s3, f3⟩; have hrc4 : RC w4 (w.heap.size + 1) := ((f3.block _ h3s (fun h => by have := hF2 _ h; omega)).trans hrc3); have hbw4 := Lib.hid (hbw3.trans (f3.below (B := w.heap.size) (by omega) fun x hx => by have := hF2 x hx; omega)); have HL := Lib.hid (laidOut_any _ _ 4 none none _ g' F3 w4 HG2.out (by omega) r3 HLL.out); have HRC4 := Lib.hid hrc4; have h4s := heap_lt hrc4; clear r3 n3 s3 f3 hrc4)
        | (go_at_call 37; (with_reducible refine HL.out.mono ?_); rintro e w5 ⟨v5, rfl, sb, hb5⟩; have HSB := Lib.hid sb; obtain ⟨A5, c5, hs5, rfl, _⟩ := sb; have hrc5 : RC w5 (w.heap.size + 1) := (hb5.block _ h4s).trans HRC4.out; have HB5 := Lib.hid (thn hbw4.out hb5); obtain ⟨p0, p1, f0, f1⟩ := hrc5.cells; have HRC5 := Lib.hid hrc5; clear hb5 hrc5))
      obtain ⟨r0, r1, ho⟩ := HRC5.out.end_ (.slice A5 (layS (rootT m (delT m t k)).1 (rootT m (delT m t k)).2).1.length c5) (.int .i64 (layS (rootT m (delT m t k)).1 (rootT m (delT m t k)).2).2)
      have hst := (HSB.out.le (B' := w.heap.size) (by omega)).keep (w' := (w5.setCell ⟨w.heap.size + 1, 0, none⟩ (.slice A5 (layS (rootT m (delT m t k)).1 (rootT m (delT m t k)).2).1.length c5)).setCell ⟨w.heap.size + 1, 1, none⟩ (.int .i64 (layS (rootT m (delT m t k)).1 (rootT m (delT m t k)).2).2)) fun b hb => ho b fun e => by subst e; exact hb _ _ HRC5.out
      exact bodyPost_ret (v := .tuple #[.agg #[(.slice A5 (layS (rootT m (delT m t k)).1 (rootT m (delT m t k)).2).1.length c5), (.int .i64 (layS (rootT m (delT m t k)).1 (rootT m (delT m t k)).2).2)], .bool true, .int .i64 0]) (by simp [results, Try.results25, go_sem, r0, r1]) rfl ⟨(HB5.out.setCell (p := ⟨w.heap.size + 1, 0, none⟩) (by simp) _).setCell (p := ⟨w.heap.size + 1, 1, none⟩) (by simp) _, _, rfl, by first | exact hst | (rw [if_pos rfl]; exact hst)⟩
end Go.Proofs.Ythjjhldmfmnflaa
/- Pairs told after a put or a taking away: the walk of after. Conditions: few pairs, read in memory. -/
namespace Go.Proofs.Ythjjhldmfmnflaa
open Go.RowKit
set_option linter.unusedSimpArgs false
set_option linter.unusedVariables false

/-- One more pair. -/
theorem push_pair (W : World) (B : Nat) (v : Value) (xs : List Pr) (x : Pr) (o : W.ownsRow B 47 2 v xs.length (pcells xs)) (hB : B ≤ W.heap.size) (hx : xs.length ≤ 100000) :
    ∃ A' c' W', (Builtin.append_ #[29, 29] 29 #[v, .slice (some ⟨W.heap.size, 0, none⟩) 1 1]).run Try.prog (W.alloc (.cells #[.string x.1.s, .string x.2.s] 47)) = .ok (.slice A' (xs.length + 1) c') W' ∧ W'.ownsRow B 47 2 (.slice A' (xs.length + 1) c') (xs ++ [x]).length (pcells (xs ++ [x])) ∧ Below B W W' := by
  obtain ⟨iP, hiP, hiz, hi1, hi2⟩ := info_parts3 Try.infoP
  obtain ⟨v3, w3, hrun, ho3, hg3, _⟩ := run_append_own (P := Try.prog) (W.alloc (.cells #[.string x.1.s, .string x.2.s] 47)) B 29 29 47 iP (.agg #[.string ⟨#[]⟩, .string ⟨#[]⟩]) 2 32 Try.underlying29 hiP hiz hi1 hi2 rfl (by decide) v xs.length (pcells xs) (own_below o (below1 W _)) ⟨W.heap.size, 0, none⟩ 1 1 (pcell x) rfl (newcells W x) (by intro u hu; simp [pcell] at hu; rcases hu with rfl | rfl <;> rfl) (by unfold maxLen; omega) (by omega) (by simp; omega)
  obtain ⟨A3, c3, rfl⟩ := own_form ho3
  refine ⟨A3, c3, w3, hrun, ?_, ((below1 W _).mono hB).grown hg3 (by simp; omega) fun e he => (own_in o he).1⟩
  rw [List.length_append, pcells_app]
  simpa [pcells, pcell] using ho3
theorem aft_one (k v : Key) (laid : Bool) (l : List Pr) (j : Nat) (h : j < l.length) : aft k v laid (l.drop j) = (if laid = false ∧ k ≤ l[j].1 then [(k, v)] else []) ++ ((if l[j].1 ≠ k then [l[j]] else []) ++ aft k v (laid || decide (k ≤ l[j].1)) (l.drop (j + 1))) := by
  rw [List.drop_eq_getElem_cons h, aft]

set_option maxRecDepth 100000 in
set_option maxHeartbeats 4000000 in
theorem after_any (A : Option Addr) (n c : Nat) (l : List Pr) (k v : Key) (del : Bool) (w : World) (hr : RdP w A n l) (hl : l.length ≤ 1000) :
    Calls Try.prog 22 #[.slice A n c, .string k.s, .string v.s, .bool del] w fun e w' => ∃ r, e = .returned r ∧ w'.ownsRow w.heap.size 47 2 r (aft k v del l).length (pcells (aft k v del l)) ∧ Below w.heap.size w w' := by
  have HR := Lib.hid hr
  have hn := hr.len
  have HL := Lib.hid (aft_len k v del l)
  clear hr
  subst hn
  generalize haft : aft k v del l = T at *
  go_enter Try.func22, Try.ntmps22
  go_wp2
  go_loopw [9, 10, 11] (fun o d i wr => ∃ (j : Nat) (laid : Bool) (xs : List Pr), i = .int .i64 j ∧ j ≤ l.length ∧ d = .bool laid ∧ wr.ownsRow w.heap.size 47 2 o xs.length (pcells xs) ∧ Below w.heap.size w wr ∧ xs ++ aft k v laid (l.drop j) = T) (fun _ _ i _ => l.length - (intOf i).toNat)
  case atStart => exact ⟨0, del, [], rfl, by omega, rfl, World.ownsRow_nil _ _ _ _, Below.refl _ _, haft⟩
  case round =>
    obtain ⟨j, laid, xs, rfl, hj, rfl, ho, hB, hT⟩ := hrel
    obtain ⟨oA, oc, rfl⟩ := own_form ho
    clear haft
    have hxl : xs.length ≤ 2000 := by
      have h1 := congrArg List.length hT
      rw [List.length_append] at h1
      have := HL.out
      omega
    by_cases hlt : j < l.length
    · have hlt' : (j : Int) < (l.length : Int) := by omega
      have hone := aft_one k v laid l j hlt
      rw [hone, ← List.append_assoc, ← List.append_assoc] at hT
      have HRD := Lib.hid fun (W : World) (hb : Below w.heap.size w W) => (HR.out.below hb).at_ j hlt
      obtain ⟨ad, rfl, a0, a1⟩ := HRD.out wr hB
      have HRC := Lib.hid fun (W : World) (hb : Below w.heap.size w W) => show W.cell? (ad.add (j * 2)) = some (.string l[j].1.s) ∧ W.cell? ⟨(ad.add (j * 2)).block, (ad.add (j * 2)).off + 1, none⟩ = some (.string l[j].2.s) by
        obtain ⟨ad', e, b0, b1⟩ := HRD.out W hb
        have e2 := Option.some.inj e
        subst e2
        exact ⟨b0, b1⟩
      clear hone HRD
      generalize l[j] = p at *
      obtain ⟨pk, pv⟩ := p
      simp only at *
      have HO := Lib.hid ho
      have HB := Lib.hid hB
      have HT := Lib.hid hT
      clear ho hT
      have hway : (laid = true ∧ pk = k) ∨ (laid = true ∧ pk ≠ k) ∨ (laid = false ∧ k ≤ pk ∧ pk = k) ∨ (laid = false ∧ k ≤ pk ∧ pk ≠ k) ∨ (laid = false ∧ ¬ k ≤ pk) := by
        cases laid <;> by_cases h1 : k ≤ pk <;> by_cases h2 : pk = k <;> simp [h1, h2]
      rcases hway with ⟨rfl, he⟩ | ⟨rfl, he⟩ | ⟨rfl, hle, he⟩ | ⟨rfl, hle, he⟩ | ⟨rfl, hle⟩
      · subst he
        have HN := Lib.hid (show xs ++ aft pk v true (l.drop (j + 1)) = T by have h := HT.out; simpa using h)
        clear HT
        go_wp2
        go_roundw
        case rel => exact ⟨j + 1, true, xs, by go_num, hlt, rfl, HO.out, HB.out, HN.out⟩
        case measure => simp [intOf]; omega
      · have he2 : (pk.s.toList == k.s.toList) = false := beq_false_of_ne fun h => he (key_eq.1 h)
        have HN := Lib.hid (show (xs ++ [(pk, pv)]) ++ aft k v true (l.drop (j + 1)) = T by have h := HT.out; simpa [he] using h)
        obtain ⟨A1, c1, w1, hrun, ho1, hb1⟩ := push_pair wr w.heap.size _ xs (pk, pv) HO.out HB.out.size (by omega)
        have HR1 := Lib.hid hrun
        have HO1 := Lib.hid ho1
        have HB1 := Lib.hid (HB.out.trans hb1)
        clear HT hrun ho1 hb1 HO hxl HRC
        go_wp2_with (at_builtin; refine Lib.wpList_append_run _ rfl _ _ _ _ rfl _ _ rfl rfl _ _ HR1.out ?_)
        go_roundw
        case rel => exact ⟨j + 1, true, _, by go_num, hlt, rfl, HO1.out, HB1.out, HN.out⟩
        case measure => simp [intOf]; omega
      · subst he
        have hge : Op.bytesLess pk.s.toList pk.s.toList = false := by rw [less_dec]; exact decide_eq_false (by grind)
        have HN := Lib.hid (show (xs ++ [(pk, v)]) ++ aft pk v true (l.drop (j + 1)) = T by have h := HT.out; simpa [hle] using h)
        obtain ⟨A1, c1, w1, hrun, ho1, hb1⟩ := push_pair wr w.heap.size _ xs (pk, v) HO.out HB.out.size (by omega)
        obtain ⟨b0, b1⟩ := HRC.out w1 (HB.out.trans hb1)
        have HR1 := Lib.hid hrun
        have HO1 := Lib.hid ho1
        have HB1 := Lib.hid (HB.out.trans hb1)
        clear HT hrun ho1 hb1 HO hxl HRC
        go_wp2_with (at_builtin; refine Lib.wpList_append_run _ rfl _ _ _ _ rfl _ _ rfl rfl _ _ HR1.out ?_)
        go_roundw
        case rel => exact ⟨j + 1, true, _, by go_num, hlt, rfl, HO1.out, HB1.out, HN.out⟩
        case measure => simp [intOf]; omega
      · have he2 : (pk.s.toList == k.s.toList) = false := beq_false_of_ne fun h => he (key_eq.1 h)
        have hge : Op.bytesLess pk.s.toList k.s.toList = false := by rw [less_dec]; simp; grind
        have HN := Lib.hid (show ((xs ++ [(k, v)]) ++ [(pk, pv)]) ++ aft k v true (l.drop (j + 1)) = T by have h := HT.out; simpa [hle, he] using h)
        obtain ⟨A1, c1, w1, hrun, ho1, hb1⟩ := push_pair wr w.heap.size _ xs (k, v) HO.out HB.out.size (by omega)
        obtain ⟨b0, b1⟩ := HRC.out w1 (HB.out.trans hb1)
        obtain ⟨A2, c2, w2, hrun2, ho2, hb2⟩ := push_pair w1 w.heap.size _ _ (pk, pv) ho1 (HB.out.trans hb1).size (by simp; omega)
        simp only [List.length_append, List.length_cons, List.length_nil, Nat.zero_add] at hrun2
        have HR1 := Lib.hid hrun
        have HR2 := Lib.hid hrun2
        have HO1 := Lib.hid ho2
        have HB1 := Lib.hid ((HB.out.trans hb1).trans hb2)
        clear HT hrun ho1 hb1 HO hxl HRC hrun2 ho2 hb2
        go_wp2_with (at_builtin; (first | refine Lib.wpList_append_run _ rfl _ _ _ _ rfl _ _ rfl rfl _ _ HR1.out ?_ | refine Lib.wpList_append_run _ rfl _ _ _ _ rfl _ _ rfl rfl _ _ HR2.out ?_))
        go_roundw
        case rel => exact ⟨j + 1, true, _, by go_num, hlt, rfl, by simpa using HO1.out, HB1.out, HN.out⟩
        case measure => simp [intOf]; omega
      · have he : pk ≠ k := fun e => hle (by subst e; grind)
        have he2 : (pk.s.toList == k.s.toList) = false := beq_false_of_ne fun h => he (key_eq.1 h)
        have hge : Op.bytesLess pk.s.toList k.s.toList = true := by rw [less_dec]; simp; grind
        have HN := Lib.hid (show (xs ++ [(pk, pv)]) ++ aft k v false (l.drop (j + 1)) = T by have h := HT.out; simpa [he, hle] using h)
        obtain ⟨A1, c1, w1, hrun, ho1, hb1⟩ := push_pair wr w.heap.size _ xs (pk, pv) HO.out HB.out.size (by omega)
        have HR1 := Lib.hid hrun
        have HO1 := Lib.hid ho1
        have HB1 := Lib.hid (HB.out.trans hb1)
        clear HT hrun ho1 hb1 HO hxl HRC
        go_wp2_with (at_builtin; refine Lib.wpList_append_run _ rfl _ _ _ _ rfl _ _ rfl rfl _ _ HR1.out ?_)
        go_roundw
        case rel => exact ⟨j + 1, false, _, by go_num, hlt, rfl, HO1.out, HB1.out, HN.out⟩
        case measure => simp [intOf]; omega
    · obtain rfl : j = l.length := by omega
      rw [List.drop_length] at hT
      have HO := Lib.hid ho
      have HB := Lib.hid hB
      cases laid with
      | true =>
        have HN := Lib.hid (show xs = T by simpa [aft] using hT)
        clear ho hB hT
        go_wp2
        go_ret
        have h := HO.out
        rw [HN.out] at h
        rw [← HN.out]
        rw [← HN.out] at h
        exact ⟨_, rfl, h, HB.out⟩
      | false =>
        have HN := Lib.hid (show xs ++ [(k, v)] = T by simpa [aft] using hT)
        obtain ⟨A1, c1, w1, hrun, ho1, hb1⟩ := push_pair wr w.heap.size _ xs (k, v) ho hB.size (by omega)
        rw [HN.out] at ho1
        have HR1 := Lib.hid hrun
        have HO1 := Lib.hid ho1
        have HB1 := Lib.hid (hB.trans hb1)
        clear ho hB hT hrun ho1 hb1
        go_wp2_with (at_builtin; refine Lib.wpList_append_run _ rfl _ _ _ _ rfl _ _ rfl rfl _ _ HR1.out ?_)
        go_ret
        exact ⟨_, rfl, HO1.out, HB1.out⟩
end Go.Proofs.Ythjjhldmfmnflaa
/- Keys put and taken away, one after another: the walk of BtreeMap. Conditions: lists that are read in memory. -/
namespace Go.Proofs.Ythjjhldmfmnflaa
open Go.RowKit
set_option linter.unusedSimpArgs false
set_option linter.unusedVariables false

theorem put_step2 {m : Nat} {t : Tr} (hG : Good m t) (hp : (prs m t).length ≤ 100) (k x : Key) (v : Value) (w : World) (hs : StR w v (layS m t)) :
    Calls Try.prog 21 #[v, .string k.s, .string x.s] w fun e w' => ∃ v' m' t', e = .returned (.tuple #[v', .int .i64 0]) ∧ Good m' t' ∧ prs m' t' = aft k x false (prs m t) ∧ StateB w' w.heap.size v' (layS m' t') ∧ Below w.heap.size w w' := by
  obtain ⟨A, c, rfl, hr⟩ := hs
  obtain ⟨h2, h3, _⟩ := layS_wfn hG (by omega)
  have h1 := rdS_lay hG (by omega : (prs m t).length ≤ 2048)
  refine (put_state _ _ c A _ k x w hr h2 h3).mono ?_
  rintro e w' ⟨hb, he⟩
  rw [h1] at he
  dsimp only at he
  obtain ⟨_, p2, _, _⟩ := put_ok _ hG k x (ge_none k) (bel_none k) (by omega)
  obtain ⟨g1, g2, _⟩ := put_good hG k x
  have hlen : ¬ 2048 < (prs m (putT m t k x)).length := by
    rw [p2]
    have := aft_len k x false (prs m t)
    omega
  rw [if_neg hlen] at he
  obtain ⟨s, rfl, hst⟩ := he
  exact ⟨_, _, _, rfl, g1, g2, hst, hb⟩
theorem del_step2 {m : Nat} {t : Tr} (hG : Good m t) (hp : (prs m t).length ≤ 100) (k x : Key) (v : Value) (w : World) (hs : StR w v (layS m t)) :
    Calls Try.prog 25 #[v, .string k.s] w fun e w' => ∃ v' m' t' b, e = .returned (.tuple #[v', .bool b, .int .i64 0]) ∧ Good m' t' ∧ prs m' t' = aft k x true (prs m t) ∧ StateB w' w.heap.size v' (layS m' t') ∧ Below w.heap.size w w' := by
  obtain ⟨A, c, rfl, hr⟩ := hs
  obtain ⟨h2, h3, h4⟩ := layS_wfn hG (by omega)
  have h1 := rdS_lay hG (by omega : (prs m t).length ≤ 2048)
  refine (delete_state _ _ c A _ k w hr h2 h3 (layS_few hG) h4).mono ?_
  rintro e w' ⟨hb, he⟩
  rw [h1] at he
  dsimp only at he
  obtain ⟨s, rfl, hst⟩ := he
  obtain ⟨g1, g2, g3⟩ := del_good hG k x
  cases hB : wasT m t k with
  | true =>
    rw [hB, if_pos rfl] at hst
    exact ⟨_, _, _, _, rfl, g1, g2, hst, hb⟩
  | false =>
    rw [hB, if_neg (by decide)] at hst
    exact ⟨_, _, _, _, rfl, hG, (g3 hB).symm, hst, hb⟩
theorem range_own {m : Nat} {t : Tr} (hG : Good m t) (hp : (prs m t).length ≤ 100) (v : Value) (w : World) (hs : StR w v (layS m t)) :
    Calls Try.prog 9 #[v, .string ⟨#[]⟩, .string ⟨#[]⟩] w fun e w' => ∃ A' c', e = .returned (.tuple #[.slice A' (prs m t).length c', .int .i64 0]) ∧ RdP w' A' (prs m t).length (prs m t) ∧ Below w.heap.size w w' := by
  obtain ⟨A, c, rfl, hr⟩ := hs
  obtain ⟨h2, h3, _⟩ := layS_wfn hG (by omega)
  have h1 := rdS_lay hG (by omega : (prs m t).length ≤ 2048)
  have h := range_sum _ _ c A _ noK noK w hr h2 h3
  rw [h1] at h
  have e : rngL (some (m, t)) noK noK = prs m t := span_all _
  rw [e] at h
  refine Calls.mono (show Calls _ _ #[_, .string ⟨#[]⟩, .string ⟨#[]⟩] _ _ from h) ?_
  rintro e w' ⟨A', c', he, h4, _, h5⟩
  exact ⟨A', c', he, h4, h5⟩
theorem check_own {m : Nat} {t : Tr} (hG : Good m t) (hp : (prs m t).length ≤ 100) (v : Value) (w : World) (hs : StR w v (layS m t)) :
    Calls Try.prog 16 #[v] w fun e w' => e = .returned (.int .i64 0) ∧ Below w.heap.size w w' := by
  obtain ⟨A, c, rfl, hr⟩ := hs
  obtain ⟨h2, h3, _⟩ := layS_wfn hG (by omega)
  have h1 := rdS_lay hG (by omega : (prs m t).length ≤ 2048)
  have h := check_state _ _ c A _ w hr h2 h3
  rw [h1] at h
  exact h
/-- What is written into a variable of type State touches no row of another type. -/
theorem own_two_set {B : Nat} {e : TypeId} {k : Nat} {u : Value} {n : Nat} {xs : List Value} {w : World} {b : Nat} {a : Value} {r : Int} (h : w.ownsRow B e k u n xs) (ht : Two w b a r) (he : e ≠ 27) (x y : Value) : ((w.setCell ⟨b, 0, none⟩ x).setCell ⟨b, 1, none⟩ y).ownsRow B e k u n xs :=
  own_keep h fun c hc => (heap_setCell_other _ ⟨b, 1, none⟩ c _ (fun e2 => by have e2 : c = b := e2; subst e2; exact own_ne h ht he hc)).trans (heap_setCell_other w ⟨b, 0, none⟩ c _ (fun e2 => by have e2 : c = b := e2; subst e2; exact own_ne h ht he hc))
def vK : Key := ⟨⟨#[118]⟩, by decide⟩
def bools (l : List Bool) : List Value := l.map Value.bool

set_option maxRecDepth 100000 in
set_option maxHeartbeats 4000000 in
theorem kMap_any (A0 : Option Addr) (n0 c0 : Nat) (A1 : Option Addr) (n1 c1 : Nat) (l0 : List Key) (l1 : List Bool) (w : World) (hr0 : Rd w A0 n0 c0 (strs l0)) (hr1 : Rd w A1 n1 c1 (bools l1)) (h0 : n0 = l0.length) (h1 : n1 = l1.length) :
    Calls Try.prog 5 #[.slice A0 n0 c0, .slice A1 n1 c1] w fun e w' => e = .returned (.bool true) ∧ Below w.heap.size w w' := by
  subst h0
  subst h1
  have hm0 := Nat.le_trans hr0.le hr0.cap
  have hm1 := Nat.le_trans hr1.le hr1.cap
  have HR0 := Lib.hid hr0
  have HR1 := Lib.hid hr1
  have HAL := Lib.hid alive_any
  have HN := Lib.hid new_any
  have HNU := Lib.hid (num_any 0 · (by omega))
  clear hr0 hr1
  go_enter Try.func5, Try.ntmps5
  go_wp2_with (first
    | (go_at_call 20; (with_reducible refine (HAL.out _).mono ?_); rintro e w1 ⟨rfl, hb1⟩; have HB1 := Lib.hid hb1; clear hb1)
    | (go_at_call 24; (with_reducible refine (HN.out _).mono ?_); rintro e w2 ⟨rfl, hb2⟩; have HB2 := Lib.hid hb2; clear hb2))
  have hbs : Below w.heap.size w (w2.alloc (.cells #[.slice none 0 0, .int .i64 (-1)] 27)) := thn (thn HB1.out HB2.out) (below1 w2 _)
  have hs4 : Two (w2.alloc (.cells #[.slice none 0 0, .int .i64 (-1)] 27)) w2.heap.size (.slice none 0 0) (-1) := heap_alloc_new w2 _
  have HB5 := Lib.hid (thn HB1.out HB2.out).size
  generalize w2.alloc (.cells #[.slice none 0 0, .int .i64 (-1)] 27) = W0 at *
  generalize w2.heap.size = b5 at *
  have HI := Lib.hid (And.intro hbs hs4)
  clear hbs hs4 HB1 HB2
  go_loopw [6, 7, 8, 9] (fun p i _ _ wr => ∃ (j m : Nat) (t : Tr) (A5 : Option Addr) (c5 : Nat), i = .int .i64 j ∧ j ≤ l0.length ∧ j ≤ 60 ∧ Good m t ∧ (prs m t).length ≤ j ∧ Two wr b5 (.slice A5 (layS m t).1.length c5) (layS m t).2 ∧ StateB wr w.heap.size (.agg #[.slice A5 (layS m t).1.length c5, .int .i64 (layS m t).2]) (layS m t) ∧ wr.ownsRow w.heap.size 47 2 p (prs m t).length (pcells (prs m t)) ∧ Below w.heap.size w wr) (fun _ i _ _ _ => 60 - (intOf i).toNat)
  case atStart =>
    obtain ⟨g1, g2⟩ := fil_good []
    exact ⟨0, (fil []).1, (fil []).2, none, 0, rfl, by omega, by omega, g1, by decide, HI.out.2, ⟨none, 0, [], rfl, World.ownsRow_nil _ _ _ _, rfl, fun i h x h1 => by cases i <;> cases h1⟩, World.ownsRow_nil _ _ _ _, HI.out.1⟩
  case round =>
    obtain ⟨j, m, t, A5, c5, rfl, hj, hj60, hG, hpl, htw, hsb, hown, hB⟩ := hrel
    obtain ⟨pA, pc, rfl⟩ := own_form hown
    clear HI
    have hW : StR wr (.agg #[.slice A5 (layS m t).1.length c5, .int .i64 (layS m t).2]) (layS m t) := by
      obtain ⟨A, c, e, h⟩ := hsb.rd
      exact ⟨A, c, e, h⟩
    obtain ⟨z0, z1, _, _⟩ := htw.cells
    have HLN := Lib.hid (show (prs m t).length ≤ 60 ∧ (prs m t).length ≤ j from ⟨by omega, hpl⟩)
    have HI := Lib.hid (And.intro hG (And.intro hpl (And.intro htw (And.intro hsb (And.intro hown hB)))))
    have hji : (j : Int) ≤ 9223372036854775807 := by omega
    by_cases hlt : j < l0.length
    · have hlt' : (j : Int) < (l0.length : Int) := by omega
      by_cases h60 : j < 60
      · have h60' : (j : Int) < 60 := by omega
        obtain ⟨ad, hA, q0⟩ := (HR0.out.below hB).at_ (strs_at hlt)
        subst hA
        have HQ := Lib.hid fun (W : World) (hb : Below w.heap.size w W) => show W.cell? (ad.add j) = some (.string l0[j].s) by
          obtain ⟨ad', e, h⟩ := (HR0.out.below hb).at_ (strs_at hlt)
          have e2 := Option.some.inj e
          subst e2
          exact h
        have HP := Lib.hid fun (W : World) (hb : Below wr.heap.size wr W) => put_step2 hG (by omega) l0[j] vK _ W (hW.below hb)
        have HD := Lib.hid fun (W : World) (hb : Below wr.heap.size wr W) => del_step2 hG (by omega) l0[j] vK _ W (hW.below hb)
        change Hid (∀ (W : World), Below wr.heap.size wr W → Calls Try.prog 21 #[_, .string l0[j].s, .string ⟨#[118]⟩] W _) at HP
        clear hW hG hpl htw hsb hown
        generalize hkey : l0[j] = key at *
        obtain ⟨s, hs⟩ : ∃ s, s = key.s := ⟨_, rfl⟩
        rw [← hs] at q0 HQ HP HD
        have HKS := Lib.hid hs
        clear hs
        clear hkey
        generalize hnd : (layS m t).1 = nd at *
        generalize hrt : (layS m t).2 = rt at *
        by_cases hd : j < l1.length
        · have hd' : (j : Int) < (l1.length : Int) := by omega
          obtain ⟨ad1, hA1, d0⟩ := (HR1.out.below hB).at_ (show (bools l1)[j]? = some (.bool l1[j]) by simp [bools, hd])
          subst hA1
          clear hB
          generalize l1[j] = gone at *
          cases gone with
          | true =>
            go_upto_region 11 with fail
            generalize wr = W at *
            have hb0 : Below W.heap.size W W.drew := (Below.refl _ _).drew
            refine region_anyT (fun W' => W'.cell? ⟨b5, 0, none⟩ = some (.slice A5 nd.length c5) ∧ W'.cell? ⟨b5, 1, none⟩ = some (.int .i64 rt) ∧ W'.cell? (ad.add j) = some (.string s)) [0, 1, 2, 3, 4, 5, 6] (by kernel_rfl) ⟨z0, z1, q0⟩ ?_
            intro hcl hS
            refine anyT_take (i := 0) (oi := ?oa0) (v := ?va0) ?hia0 ?haa0 ?hba0 ?hca0 ?hda0 ?hqa0 (Or.inl ⟨?hwa0, ?hya0⟩) hS hcl ?resta0
            case hia0 => simp only [List.getElem?_toArray, List.getElem?_cons_succ, List.getElem?_cons_zero]; rfl
            case hqa0 => exact fun _ _ _ h => h
            case haa0 => kernel_rfl
            case hba0 => kernel_rfl
            case hca0 => kernel_rfl
            case hda0 => kernel_rfl
            case hwa0 => rfl
            case hya0 => intro w' hSw; obtain ⟨s0, s1, s2⟩ := hSw; go_simp; try with_reducible rfl
            clear hcl
            intro hcl
            try simp only [Act.put, List.setIfInBounds_toArray, List.set_cons_zero, List.set_cons_succ]
            refine anyT_take (i := 1) (oi := ?oa1) (v := ?va1) ?hia1 ?haa1 ?hba1 ?hca1 ?hda1 ?hqa1 (Or.inl ⟨?hwa1, ?hya1⟩) hS hcl ?resta1
            case hia1 => simp only [List.getElem?_toArray, List.getElem?_cons_succ, List.getElem?_cons_zero]; rfl
            case hqa1 => exact fun _ _ _ h => h
            case haa1 => kernel_rfl
            case hba1 => kernel_rfl
            case hca1 => kernel_rfl
            case hda1 => kernel_rfl
            case hwa1 => rfl
            case hya1 => intro w' hSw; obtain ⟨s0, s1, s2⟩ := hSw; go_simp; try with_reducible rfl
            clear hcl
            intro hcl
            try simp only [Act.put, List.setIfInBounds_toArray, List.set_cons_zero, List.set_cons_succ]
            refine anyT_take (i := 2) (oi := ?oa2) (v := ?va2) ?hia2 ?haa2 ?hba2 ?hca2 ?hda2 ?hqa2 (Or.inl ⟨?hwa2, ?hya2⟩) hS hcl ?resta2
            case hia2 => simp only [List.getElem?_toArray, List.getElem?_cons_succ, List.getElem?_cons_zero]; rfl
            case hqa2 => exact fun _ _ _ h => h
            case haa2 => kernel_rfl
            case hba2 => kernel_rfl
            case hca2 => kernel_rfl
            case hda2 => kernel_rfl
            case hwa2 => rfl
            case hya2 => intro w' hSw; obtain ⟨s0, s1, s2⟩ := hSw; go_simp; try with_reducible rfl
            clear hcl
            intro hcl
            try simp only [Act.put, List.setIfInBounds_toArray, List.set_cons_zero, List.set_cons_succ]
            refine anyT_take (i := 3) (oi := ?oa3) (v := ?va3) ?hia3 ?haa3 ?hba3 ?hca3 ?hda3 ?hqa3 (Or.inl ⟨?hwa3, ?hya3⟩) hS hcl ?resta3
            case hia3 => simp only [List.getElem?_toArray, List.getElem?_cons_succ, List.getElem?_cons_zero]; rfl
            case hqa3 => exact fun _ _ _ h => h
            case haa3 => kernel_rfl
            case hba3 => kernel_rfl
            case hca3 => kernel_rfl
            case hda3 => kernel_rfl
            case hwa3 => rfl
            case hya3 => intro w' hSw; obtain ⟨s0, s1, s2⟩ := hSw; go_simp; try with_reducible rfl
            clear hcl
            intro hcl
            try simp only [Act.put, List.setIfInBounds_toArray, List.set_cons_zero, List.set_cons_succ]
            refine anyT_take (i := 4) (oi := ?oa4) (v := ?va4) ?hia4 ?haa4 ?hba4 ?hca4 ?hda4 ?hqa4 (Or.inl ⟨?hwa4, ?hya4⟩) hS hcl ?resta4
            case hia4 => simp only [List.getElem?_toArray, List.getElem?_cons_succ, List.getElem?_cons_zero]; rfl
            case hqa4 => exact fun _ _ _ h => h
            case haa4 => kernel_rfl
            case hba4 => kernel_rfl
            case hca4 => kernel_rfl
            case hda4 => kernel_rfl
            case hwa4 => rfl
            case hya4 => intro w' hSw; obtain ⟨s0, s1, s2⟩ := hSw; go_simp; try with_reducible rfl
            clear hcl
            intro hcl
            try simp only [Act.put, List.setIfInBounds_toArray, List.set_cons_zero, List.set_cons_succ]
            refine anyT_step (k := 5) (o := ?oa5) ?hia5 (by kernel_rfl) hcl ?resta5
            case hia5 => simp only [List.getElem?_toArray, List.getElem?_cons_succ, List.getElem?_cons_zero]; rfl
            intro K hK
            go_simp
            go_at_call 25
            (with_reducible refine (HD.out _ hb0).mono ?_)
            rintro e w2 ⟨v2, m2, t2, b2, rfl, hG2, hp2, hst2, hb2⟩
            have hbw : Below W.heap.size W w2 := thn hb0 hb2
            have HST := Lib.hid hst2
            obtain ⟨A6, c6, hs6, rfl, _⟩ := hst2
            clear hcl hb2
            refine hK.out _ _ ⟨cell_keep z0 hbw, cell_keep z1 hbw, cell_keep q0 hbw⟩ (fun hS hcl => ?_)
            clear hK K
            try simp only [Act.put, List.setIfInBounds_toArray, List.set_cons_zero, List.set_cons_succ]
            refine anyT_take (i := 6) (oi := ?oa6) (v := ?va6) ?hia6 ?haa6 ?hba6 ?hca6 ?hda6 ?hqa6 (Or.inl ⟨?hwa6, ?hya6⟩) hS hcl ?resta6
            case hia6 => simp only [List.getElem?_toArray, List.getElem?_cons_succ, List.getElem?_cons_zero]; rfl
            case hqa6 => exact fun _ _ _ h => h
            case haa6 => kernel_rfl
            case hba6 => kernel_rfl
            case hca6 => kernel_rfl
            case hda6 => kernel_rfl
            case hwa6 => rfl
            case hya6 => intro w' hSw; obtain ⟨s0, s1, s2⟩ := hSw; go_simp; try with_reducible rfl
            clear hcl
            intro hcl
            try simp only [Act.put, List.setIfInBounds_toArray, List.set_cons_zero, List.set_cons_succ]
            refine anyT_free (i := 7) (oi := ?oa7) (v := ?va7) ?hia7 ?haa7 ?hba7 ?hca7 ?hda7 ?hqa7 (Or.inl ⟨?hwa7, ?hya7⟩) hcl ?resta7
            case hia7 => simp only [List.getElem?_toArray, List.getElem?_cons_succ, List.getElem?_cons_zero]; rfl
            case hqa7 => exact fun _ _ _ h => h
            case haa7 => kernel_rfl
            case hba7 => kernel_rfl
            case hca7 => kernel_rfl
            case hda7 => kernel_rfl
            case hwa7 => rfl
            case hya7 => intro w' _; go_simp; try with_reducible rfl
            clear hcl
            intro hcl
            try simp only [Act.put, List.setIfInBounds_toArray, List.set_cons_zero, List.set_cons_succ]
            refine anyT_free (i := 8) (oi := ?oa8) (v := ?va8) ?hia8 ?haa8 ?hba8 ?hca8 ?hda8 ?hqa8 (Or.inl ⟨?hwa8, ?hya8⟩) hcl ?resta8
            case hia8 => simp only [List.getElem?_toArray, List.getElem?_cons_succ, List.getElem?_cons_zero]; rfl
            case hqa8 => exact fun _ _ _ h => h
            case haa8 => kernel_rfl
            case hba8 => kernel_rfl
            case hca8 => kernel_rfl
            case hda8 => kernel_rfl
            case hwa8 => rfl
            case hya8 => intro w' _; go_simp; try with_reducible rfl
            clear hcl
            intro hcl
            try simp only [Act.put, List.setIfInBounds_toArray, List.set_cons_zero, List.set_cons_succ]
            refine anyT_free (i := 9) (oi := ?oa9) (v := ?va9) ?hia9 ?haa9 ?hba9 ?hca9 ?hda9 ?hqa9 (Or.inl ⟨?hwa9, ?hya9⟩) hcl ?resta9
            case hia9 => simp only [List.getElem?_toArray, List.getElem?_cons_succ, List.getElem?_cons_zero]; rfl
            case hqa9 => exact fun _ _ _ h => h
            case haa9 => kernel_rfl
            case hba9 => kernel_rfl
            case hca9 => kernel_rfl
            case hda9 => kernel_rfl
            case hwa9 => rfl
            case hya9 => intro w' _; go_simp; try with_reducible rfl
            clear hcl
            intro hcl
            try simp only [Act.put, List.setIfInBounds_toArray, List.set_cons_zero, List.set_cons_succ]
            obtain ⟨hG, hpl, htw, hsb, hown, hB⟩ := HI.out
            have htw2 := htw.below hbw
            have HJ := Lib.hid (And.intro hG2 (And.intro hp2 (And.intro (htw2.set (.slice A6 (layS m2 t2).1.length c6) (layS m2 t2).2) (And.intro ((HST.out.le (B' := w.heap.size) (by have := hB.size; simp; omega)).two htw2 (.slice A6 (layS m2 t2).1.length c6) (.int .i64 (layS m2 t2).2)) (And.intro (own_two_set (own_below hown hbw) htw2 (by decide) (.slice A6 (layS m2 t2).1.length c6) (.int .i64 (layS m2 t2).2)) (((hB.trans (hbw.mono hB.size)).setCell (p := ⟨b5, 0, none⟩) HB5.out (.slice A6 (layS m2 t2).1.length c6)).setCell (p := ⟨b5, 1, none⟩) HB5.out (.int .i64 (layS m2 t2).2)))))))
            obtain ⟨z0', z1', f0', f1'⟩ := htw2.cells
            clear hG hpl htw hsb hown hB htw2 HST hG2 hp2 HI hS hb0 z0 z1 q0 HP HD
            refine anyT_last (k := 10) (o := ?oa10) ?hia10 (by kernel_rfl) (by kernel_rfl) hcl ?resta10
            case hia10 => simp only [List.getElem?_toArray, List.getElem?_cons_succ, List.getElem?_cons_zero]; rfl
            intro K hK
            go_simp
            clear hcl
            refine hK.out _ _ (fun hcl => ?_)
            clear hK K
            try simp only [Act.put, List.setIfInBounds_toArray, List.set_cons_zero, List.set_cons_succ]
            refine anyT_last (k := 11) (o := ?oa11) ?hia11 (by kernel_rfl) (by kernel_rfl) hcl ?resta11
            case hia11 => simp only [List.getElem?_toArray, List.getElem?_cons_succ, List.getElem?_cons_zero]; rfl
            intro K hK
            go_simp
            clear hcl
            refine hK.out _ _ (fun hcl => ?_)
            clear hK K
            refine anyT_done (by kernel_rfl) ?_ _
            go_simp
            clear hcl z0' z1' f0' f1' hbw
            obtain ⟨W6, hW6⟩ : ∃ W6, W6 = (w2.setCell ⟨b5, 0, none⟩ (.slice A6 (layS m2 t2).1.length c6)).setCell ⟨b5, 1, none⟩ (.int .i64 (layS m2 t2).2) := ⟨_, rfl⟩
            rw [← hW6]
            rw [← hW6] at HJ
            clear hW6
            obtain ⟨hG2, hp2, htw6, hsb6, hown6, hB6⟩ := HJ.out
            have q0 := HQ.out W6 hB6
            obtain ⟨pA', pc', epp, hrdp, _⟩ := RdP.of_own hown6
            injection epp with e1 e2 e3
            subst e1
            subst e3
            have HAF := Lib.hid (after_any pA _ pc (prs m t) key vK true W6 hrdp (by have := HLN.out; omega))
            rw [← hp2] at HAF
            have hlen2 := aft_len key vK true (prs m t)
            rw [← hp2] at hlen2
            have HLN2 := Lib.hid hlen2
            have HSZ := Lib.hid hB6.size
            clear hlen2 hG2 hp2 htw6 hsb6 hown6 hB6 hrdp e2
            rw [← HKS.out] at HAF
            change Hid (Calls Try.prog 22 #[.slice pA (prs m t).length pc, .string s, .string ⟨#[118]⟩, .bool true] _ _) at HAF
            go_wp2_with (first
              | (go_at_call 22; (with_reducible refine HAF.out.mono ?_); rintro e w7 ⟨v7, rfl, ho7, hb7⟩; have HO7 := Lib.hid ho7; have HB7 := Lib.hid hb7; clear ho7 hb7)
              | (go_at_call 15; (with_reducible refine (HNU.out _).mono ?_); rintro e w8 ⟨rfl, rfl⟩))
            obtain ⟨hG2, hp2, htw6, hsb6, hown6, hB6⟩ := HJ.out
            go_roundw
            case rel => exact ⟨j + 1, m2, t2, A6, c6, by go_num, hlt, by omega, hG2, by have := HLN2.out; have := HLN.out; omega, htw6.below HB7.out, hsb6.below HB7.out, own_le HO7.out HSZ.out, hB6.trans (HB7.out.mono HSZ.out)⟩
            case measure => simp [intOf]; omega
          | false =>
            go_upto_region 12 with fail
            generalize wr = W at *
            have hb0 : Below W.heap.size W W.drew := (Below.refl _ _).drew
            refine region_anyT (fun W' => W'.cell? ⟨b5, 0, none⟩ = some (.slice A5 nd.length c5) ∧ W'.cell? ⟨b5, 1, none⟩ = some (.int .i64 rt) ∧ W'.cell? (ad.add j) = some (.string s)) [0, 1, 2, 3, 4, 5, 6] (by kernel_rfl) ⟨z0, z1, q0⟩ ?_
            intro hcl hS
            refine anyT_take (i := 0) (oi := ?ob0) (v := ?vb0) ?hib0 ?hab0 ?hbb0 ?hcb0 ?hdb0 ?hqb0 (Or.inl ⟨?hwb0, ?hyb0⟩) hS hcl ?restb0
            case hib0 => simp only [List.getElem?_toArray, List.getElem?_cons_succ, List.getElem?_cons_zero]; rfl
            case hqb0 => exact fun _ _ _ h => h
            case hab0 => kernel_rfl
            case hbb0 => kernel_rfl
            case hcb0 => kernel_rfl
            case hdb0 => kernel_rfl
            case hwb0 => rfl
            case hyb0 => intro w' hSw; obtain ⟨s0, s1, s2⟩ := hSw; go_simp; try with_reducible rfl
            clear hcl
            intro hcl
            try simp only [Act.put, List.setIfInBounds_toArray, List.set_cons_zero, List.set_cons_succ]
            refine anyT_take (i := 1) (oi := ?ob1) (v := ?vb1) ?hib1 ?hab1 ?hbb1 ?hcb1 ?hdb1 ?hqb1 (Or.inl ⟨?hwb1, ?hyb1⟩) hS hcl ?restb1
            case hib1 => simp only [List.getElem?_toArray, List.getElem?_cons_succ, List.getElem?_cons_zero]; rfl
            case hqb1 => exact fun _ _ _ h => h
            case hab1 => kernel_rfl
            case hbb1 => kernel_rfl
            case hcb1 => kernel_rfl
            case hdb1 => kernel_rfl
            case hwb1 => rfl
            case hyb1 => intro w' hSw; obtain ⟨s0, s1, s2⟩ := hSw; go_simp; try with_reducible rfl
            clear hcl
            intro hcl
            try simp only [Act.put, List.setIfInBounds_toArray, List.set_cons_zero, List.set_cons_succ]
            refine anyT_take (i := 2) (oi := ?ob2) (v := ?vb2) ?hib2 ?hab2 ?hbb2 ?hcb2 ?hdb2 ?hqb2 (Or.inl ⟨?hwb2, ?hyb2⟩) hS hcl ?restb2
            case hib2 => simp only [List.getElem?_toArray, List.getElem?_cons_succ, List.getElem?_cons_zero]; rfl
            case hqb2 => exact fun _ _ _ h => h
            case hab2 => kernel_rfl
            case hbb2 => kernel_rfl
            case hcb2 => kernel_rfl
            case hdb2 => kernel_rfl
            case hwb2 => rfl
            case hyb2 => intro w' hSw; obtain ⟨s0, s1, s2⟩ := hSw; go_simp; try with_reducible rfl
            clear hcl
            intro hcl
            try simp only [Act.put, List.setIfInBounds_toArray, List.set_cons_zero, List.set_cons_succ]
            refine anyT_take (i := 3) (oi := ?ob3) (v := ?vb3) ?hib3 ?hab3 ?hbb3 ?hcb3 ?hdb3 ?hqb3 (Or.inl ⟨?hwb3, ?hyb3⟩) hS hcl ?restb3
            case hib3 => simp only [List.getElem?_toArray, List.getElem?_cons_succ, List.getElem?_cons_zero]; rfl
            case hqb3 => exact fun _ _ _ h => h
            case hab3 => kernel_rfl
            case hbb3 => kernel_rfl
            case hcb3 => kernel_rfl
            case hdb3 => kernel_rfl
            case hwb3 => rfl
            case hyb3 => intro w' hSw; obtain ⟨s0, s1, s2⟩ := hSw; go_simp; try with_reducible rfl
            clear hcl
            intro hcl
            try simp only [Act.put, List.setIfInBounds_toArray, List.set_cons_zero, List.set_cons_succ]
            refine anyT_take (i := 4) (oi := ?ob4) (v := ?vb4) ?hib4 ?hab4 ?hbb4 ?hcb4 ?hdb4 ?hqb4 (Or.inl ⟨?hwb4, ?hyb4⟩) hS hcl ?restb4
            case hib4 => simp only [List.getElem?_toArray, List.getElem?_cons_succ, List.getElem?_cons_zero]; rfl
            case hqb4 => exact fun _ _ _ h => h
            case hab4 => kernel_rfl
            case hbb4 => kernel_rfl
            case hcb4 => kernel_rfl
            case hdb4 => kernel_rfl
            case hwb4 => rfl
            case hyb4 => intro w' hSw; obtain ⟨s0, s1, s2⟩ := hSw; go_simp; try with_reducible rfl
            clear hcl
            intro hcl
            try simp only [Act.put, List.setIfInBounds_toArray, List.set_cons_zero, List.set_cons_succ]
            refine anyT_step (k := 5) (o := ?ob5) ?hib5 (by kernel_rfl) hcl ?restb5
            case hib5 => simp only [List.getElem?_toArray, List.getElem?_cons_succ, List.getElem?_cons_zero]; rfl
            intro K hK
            go_simp
            go_at_call 21
            (with_reducible refine (HP.out _ hb0).mono ?_)
            rintro e w2 ⟨v2, m2, t2, rfl, hG2, hp2, hst2, hb2⟩
            have hbw : Below W.heap.size W w2 := thn hb0 hb2
            have HST := Lib.hid hst2
            obtain ⟨A6, c6, hs6, rfl, _⟩ := hst2
            clear hcl hb2
            refine hK.out _ _ ⟨cell_keep z0 hbw, cell_keep z1 hbw, cell_keep q0 hbw⟩ (fun hS hcl => ?_)
            clear hK K
            try simp only [Act.put, List.setIfInBounds_toArray, List.set_cons_zero, List.set_cons_succ]
            refine anyT_take (i := 6) (oi := ?ob6) (v := ?vb6) ?hib6 ?hab6 ?hbb6 ?hcb6 ?hdb6 ?hqb6 (Or.inl ⟨?hwb6, ?hyb6⟩) hS hcl ?restb6
            case hib6 => simp only [List.getElem?_toArray, List.getElem?_cons_succ, List.getElem?_cons_zero]; rfl
            case hqb6 => exact fun _ _ _ h => h
            case hab6 => kernel_rfl
            case hbb6 => kernel_rfl
            case hcb6 => kernel_rfl
            case hdb6 => kernel_rfl
            case hwb6 => rfl
            case hyb6 => intro w' hSw; obtain ⟨s0, s1, s2⟩ := hSw; go_simp; try with_reducible rfl
            clear hcl
            intro hcl
            try simp only [Act.put, List.setIfInBounds_toArray, List.set_cons_zero, List.set_cons_succ]
            refine anyT_free (i := 7) (oi := ?ob7) (v := ?vb7) ?hib7 ?hab7 ?hbb7 ?hcb7 ?hdb7 ?hqb7 (Or.inl ⟨?hwb7, ?hyb7⟩) hcl ?restb7
            case hib7 => simp only [List.getElem?_toArray, List.getElem?_cons_succ, List.getElem?_cons_zero]; rfl
            case hqb7 => exact fun _ _ _ h => h
            case hab7 => kernel_rfl
            case hbb7 => kernel_rfl
            case hcb7 => kernel_rfl
            case hdb7 => kernel_rfl
            case hwb7 => rfl
            case hyb7 => intro w' _; go_simp; try with_reducible rfl
            clear hcl
            intro hcl
            try simp only [Act.put, List.setIfInBounds_toArray, List.set_cons_zero, List.set_cons_succ]
            refine anyT_free (i := 8) (oi := ?ob8) (v := ?vb8) ?hib8 ?hab8 ?hbb8 ?hcb8 ?hdb8 ?hqb8 (Or.inl ⟨?hwb8, ?hyb8⟩) hcl ?restb8
            case hib8 => simp only [List.getElem?_toArray, List.getElem?_cons_succ, List.getElem?_cons_zero]; rfl
            case hqb8 => exact fun _ _ _ h => h
            case hab8 => kernel_rfl
            case hbb8 => kernel_rfl
            case hcb8 => kernel_rfl
            case hdb8 => kernel_rfl
            case hwb8 => rfl
            case hyb8 => intro w' _; go_simp; try with_reducible rfl
            clear hcl
            intro hcl
            try simp only [Act.put, List.setIfInBounds_toArray, List.set_cons_zero, List.set_cons_succ]
            obtain ⟨hG, hpl, htw, hsb, hown, hB⟩ := HI.out
            have htw2 := htw.below hbw
            have HJ := Lib.hid (And.intro hG2 (And.intro hp2 (And.intro (htw2.set (.slice A6 (layS m2 t2).1.length c6) (layS m2 t2).2) (And.intro ((HST.out.le (B' := w.heap.size) (by have := hB.size; simp; omega)).two htw2 (.slice A6 (layS m2 t2).1.length c6) (.int .i64 (layS m2 t2).2)) (And.intro (own_two_set (own_below hown hbw) htw2 (by decide) (.slice A6 (layS m2 t2).1.length c6) (.int .i64 (layS m2 t2).2)) (((hB.trans (hbw.mono hB.size)).setCell (p := ⟨b5, 0, none⟩) HB5.out (.slice A6 (layS m2 t2).1.length c6)).setCell (p := ⟨b5, 1, none⟩) HB5.out (.int .i64 (layS m2 t2).2)))))))
            obtain ⟨z0', z1', f0', f1'⟩ := htw2.cells
            clear hG hpl htw hsb hown hB htw2 HST hG2 hp2 HI hS hb0 z0 z1 q0 HP HD
            refine anyT_last (k := 9) (o := ?ob9) ?hib9 (by kernel_rfl) (by kernel_rfl) hcl ?restb9
            case hib9 => simp only [List.getElem?_toArray, List.getElem?_cons_succ, List.getElem?_cons_zero]; rfl
            intro K hK
            go_simp
            clear hcl
            refine hK.out _ _ (fun hcl => ?_)
            clear hK K
            try simp only [Act.put, List.setIfInBounds_toArray, List.set_cons_zero, List.set_cons_succ]
            refine anyT_last (k := 10) (o := ?ob10) ?hib10 (by kernel_rfl) (by kernel_rfl) hcl ?restb10
            case hib10 => simp only [List.getElem?_toArray, List.getElem?_cons_succ, List.getElem?_cons_zero]; rfl
            intro K hK
            go_simp
            clear hcl
            refine hK.out _ _ (fun hcl => ?_)
            clear hK K
            refine anyT_done (by kernel_rfl) ?_ _
            go_simp
            clear hcl z0' z1' f0' f1' hbw
            obtain ⟨W6, hW6⟩ : ∃ W6, W6 = (w2.setCell ⟨b5, 0, none⟩ (.slice A6 (layS m2 t2).1.length c6)).setCell ⟨b5, 1, none⟩ (.int .i64 (layS m2 t2).2) := ⟨_, rfl⟩
            rw [← hW6]
            rw [← hW6] at HJ
            clear hW6
            obtain ⟨hG2, hp2, htw6, hsb6, hown6, hB6⟩ := HJ.out
            have q0 := HQ.out W6 hB6
            obtain ⟨pA', pc', epp, hrdp, _⟩ := RdP.of_own hown6
            injection epp with e1 e2 e3
            subst e1
            subst e3
            have HAF := Lib.hid (after_any pA _ pc (prs m t) key vK false W6 hrdp (by have := HLN.out; omega))
            rw [← hp2] at HAF
            have hlen2 := aft_len key vK false (prs m t)
            rw [← hp2] at hlen2
            have HLN2 := Lib.hid hlen2
            have HSZ := Lib.hid hB6.size
            clear hlen2 hG2 hp2 htw6 hsb6 hown6 hB6 hrdp e2
            rw [← HKS.out] at HAF
            change Hid (Calls Try.prog 22 #[.slice pA (prs m t).length pc, .string s, .string ⟨#[118]⟩, .bool false] _ _) at HAF
            go_wp2_with (first
              | (go_at_call 22; (with_reducible refine HAF.out.mono ?_); rintro e w7 ⟨v7, rfl, ho7, hb7⟩; have HO7 := Lib.hid ho7; have HB7 := Lib.hid hb7; clear ho7 hb7)
              | (go_at_call 15; (with_reducible refine (HNU.out _).mono ?_); rintro e w8 ⟨rfl, rfl⟩))
            obtain ⟨hG2, hp2, htw6, hsb6, hown6, hB6⟩ := HJ.out
            go_roundw
            case rel => exact ⟨j + 1, m2, t2, A6, c6, by go_num, hlt, by omega, hG2, by have := HLN2.out; have := HLN.out; omega, htw6.below HB7.out, hsb6.below HB7.out, own_le HO7.out HSZ.out, hB6.trans (HB7.out.mono HSZ.out)⟩
            case measure => simp [intOf]; omega
        · have hd' : ¬ ((j : Int) < (l1.length : Int)) := by omega
          clear hB
          go_upto_region 12 with fail
          generalize wr = W at *
          have hb0 : Below W.heap.size W W.drew := (Below.refl _ _).drew
          refine region_anyT (fun W' => W'.cell? ⟨b5, 0, none⟩ = some (.slice A5 nd.length c5) ∧ W'.cell? ⟨b5, 1, none⟩ = some (.int .i64 rt) ∧ W'.cell? (ad.add j) = some (.string s)) [0, 1, 2, 3, 4, 5, 6] (by kernel_rfl) ⟨z0, z1, q0⟩ ?_
          intro hcl hS
          refine anyT_take (i := 0) (oi := ?oc0) (v := ?vc0) ?hic0 ?hac0 ?hbc0 ?hcc0 ?hdc0 ?hqc0 (Or.inl ⟨?hwc0, ?hyc0⟩) hS hcl ?restc0
          case hic0 => simp only [List.getElem?_toArray, List.getElem?_cons_succ, List.getElem?_cons_zero]; rfl
          case hqc0 => exact fun _ _ _ h => h
          case hac0 => kernel_rfl
          case hbc0 => kernel_rfl
          case hcc0 => kernel_rfl
          case hdc0 => kernel_rfl
          case hwc0 => rfl
          case hyc0 => intro w' hSw; obtain ⟨s0, s1, s2⟩ := hSw; go_simp; try with_reducible rfl
          clear hcl
          intro hcl
          try simp only [Act.put, List.setIfInBounds_toArray, List.set_cons_zero, List.set_cons_succ]
          refine anyT_take (i := 1) (oi := ?oc1) (v := ?vc1) ?hic1 ?hac1 ?hbc1 ?hcc1 ?hdc1 ?hqc1 (Or.inl ⟨?hwc1, ?hyc1⟩) hS hcl ?restc1
          case hic1 => simp only [List.getElem?_toArray, List.getElem?_cons_succ, List.getElem?_cons_zero]; rfl
          case hqc1 => exact fun _ _ _ h => h
          case hac1 => kernel_rfl
          case hbc1 => kernel_rfl
          case hcc1 => kernel_rfl
          case hdc1 => kernel_rfl
          case hwc1 => rfl
          case hyc1 => intro w' hSw; obtain ⟨s0, s1, s2⟩ := hSw; go_simp; try with_reducible rfl
          clear hcl
          intro hcl
          try simp only [Act.put, List.setIfInBounds_toArray, List.set_cons_zero, List.set_cons_succ]
          refine anyT_take (i := 2) (oi := ?oc2) (v := ?vc2) ?hic2 ?hac2 ?hbc2 ?hcc2 ?hdc2 ?hqc2 (Or.inl ⟨?hwc2, ?hyc2⟩) hS hcl ?restc2
          case hic2 => simp only [List.getElem?_toArray, List.getElem?_cons_succ, List.getElem?_cons_zero]; rfl
          case hqc2 => exact fun _ _ _ h => h
          case hac2 => kernel_rfl
          case hbc2 => kernel_rfl
          case hcc2 => kernel_rfl
          case hdc2 => kernel_rfl
          case hwc2 => rfl
          case hyc2 => intro w' hSw; obtain ⟨s0, s1, s2⟩ := hSw; go_simp; try with_reducible rfl
          clear hcl
          intro hcl
          try simp only [Act.put, List.setIfInBounds_toArray, List.set_cons_zero, List.set_cons_succ]
          refine anyT_take (i := 3) (oi := ?oc3) (v := ?vc3) ?hic3 ?hac3 ?hbc3 ?hcc3 ?hdc3 ?hqc3 (Or.inl ⟨?hwc3, ?hyc3⟩) hS hcl ?restc3
          case hic3 => simp only [List.getElem?_toArray, List.getElem?_cons_succ, List.getElem?_cons_zero]; rfl
          case hqc3 => exact fun _ _ _ h => h
          case hac3 => kernel_rfl
          case hbc3 => kernel_rfl
          case hcc3 => kernel_rfl
          case hdc3 => kernel_rfl
          case hwc3 => rfl
          case hyc3 => intro w' hSw; obtain ⟨s0, s1, s2⟩ := hSw; go_simp; try with_reducible rfl
          clear hcl
          intro hcl
          try simp only [Act.put, List.setIfInBounds_toArray, List.set_cons_zero, List.set_cons_succ]
          refine anyT_take (i := 4) (oi := ?oc4) (v := ?vc4) ?hic4 ?hac4 ?hbc4 ?hcc4 ?hdc4 ?hqc4 (Or.inl ⟨?hwc4, ?hyc4⟩) hS hcl ?restc4
          case hic4 => simp only [List.getElem?_toArray, List.getElem?_cons_succ, List.getElem?_cons_zero]; rfl
          case hqc4 => exact fun _ _ _ h => h
          case hac4 => kernel_rfl
          case hbc4 => kernel_rfl
          case hcc4 => kernel_rfl
          case hdc4 => kernel_rfl
          case hwc4 => rfl
          case hyc4 => intro w' hSw; obtain ⟨s0, s1, s2⟩ := hSw; go_simp; try with_reducible rfl
          clear hcl
          intro hcl
          try simp only [Act.put, List.setIfInBounds_toArray, List.set_cons_zero, List.set_cons_succ]
          refine anyT_step (k := 5) (o := ?oc5) ?hic5 (by kernel_rfl) hcl ?restc5
          case hic5 => simp only [List.getElem?_toArray, List.getElem?_cons_succ, List.getElem?_cons_zero]; rfl
          intro K hK
          go_simp
          go_at_call 21
          (with_reducible refine (HP.out _ hb0).mono ?_)
          rintro e w2 ⟨v2, m2, t2, rfl, hG2, hp2, hst2, hb2⟩
          have hbw : Below W.heap.size W w2 := thn hb0 hb2
          have HST := Lib.hid hst2
          obtain ⟨A6, c6, hs6, rfl, _⟩ := hst2
          clear hcl hb2
          refine hK.out _ _ ⟨cell_keep z0 hbw, cell_keep z1 hbw, cell_keep q0 hbw⟩ (fun hS hcl => ?_)
          clear hK K
          try simp only [Act.put, List.setIfInBounds_toArray, List.set_cons_zero, List.set_cons_succ]
          refine anyT_take (i := 6) (oi := ?oc6) (v := ?vc6) ?hic6 ?hac6 ?hbc6 ?hcc6 ?hdc6 ?hqc6 (Or.inl ⟨?hwc6, ?hyc6⟩) hS hcl ?restc6
          case hic6 => simp only [List.getElem?_toArray, List.getElem?_cons_succ, List.getElem?_cons_zero]; rfl
          case hqc6 => exact fun _ _ _ h => h
          case hac6 => kernel_rfl
          case hbc6 => kernel_rfl
          case hcc6 => kernel_rfl
          case hdc6 => kernel_rfl
          case hwc6 => rfl
          case hyc6 => intro w' hSw; obtain ⟨s0, s1, s2⟩ := hSw; go_simp; try with_reducible rfl
          clear hcl
          intro hcl
          try simp only [Act.put, List.setIfInBounds_toArray, List.set_cons_zero, List.set_cons_succ]
          refine anyT_free (i := 7) (oi := ?oc7) (v := ?vc7) ?hic7 ?hac7 ?hbc7 ?hcc7 ?hdc7 ?hqc7 (Or.inl ⟨?hwc7, ?hyc7⟩) hcl ?restc7
          case hic7 => simp only [List.getElem?_toArray, List.getElem?_cons_succ, List.getElem?_cons_zero]; rfl
          case hqc7 => exact fun _ _ _ h => h
          case hac7 => kernel_rfl
          case hbc7 => kernel_rfl
          case hcc7 => kernel_rfl
          case hdc7 => kernel_rfl
          case hwc7 => rfl
          case hyc7 => intro w' _; go_simp; try with_reducible rfl
          clear hcl
          intro hcl
          try simp only [Act.put, List.setIfInBounds_toArray, List.set_cons_zero, List.set_cons_succ]
          refine anyT_free (i := 8) (oi := ?oc8) (v := ?vc8) ?hic8 ?hac8 ?hbc8 ?hcc8 ?hdc8 ?hqc8 (Or.inl ⟨?hwc8, ?hyc8⟩) hcl ?restc8
          case hic8 => simp only [List.getElem?_toArray, List.getElem?_cons_succ, List.getElem?_cons_zero]; rfl
          case hqc8 => exact fun _ _ _ h => h
          case hac8 => kernel_rfl
          case hbc8 => kernel_rfl
          case hcc8 => kernel_rfl
          case hdc8 => kernel_rfl
          case hwc8 => rfl
          case hyc8 => intro w' _; go_simp; try with_reducible rfl
          clear hcl
          intro hcl
          try simp only [Act.put, List.setIfInBounds_toArray, List.set_cons_zero, List.set_cons_succ]
          obtain ⟨hG, hpl, htw, hsb, hown, hB⟩ := HI.out
          have htw2 := htw.below hbw
          have HJ := Lib.hid (And.intro hG2 (And.intro hp2 (And.intro (htw2.set (.slice A6 (layS m2 t2).1.length c6) (layS m2 t2).2) (And.intro ((HST.out.le (B' := w.heap.size) (by have := hB.size; simp; omega)).two htw2 (.slice A6 (layS m2 t2).1.length c6) (.int .i64 (layS m2 t2).2)) (And.intro (own_two_set (own_below hown hbw) htw2 (by decide) (.slice A6 (layS m2 t2).1.length c6) (.int .i64 (layS m2 t2).2)) (((hB.trans (hbw.mono hB.size)).setCell (p := ⟨b5, 0, none⟩) HB5.out (.slice A6 (layS m2 t2).1.length c6)).setCell (p := ⟨b5, 1, none⟩) HB5.out (.int .i64 (layS m2 t2).2)))))))
          obtain ⟨z0', z1', f0', f1'⟩ := htw2.cells
          clear hG hpl htw hsb hown hB htw2 HST hG2 hp2 HI hS hb0 z0 z1 q0 HP HD
          refine anyT_last (k := 9) (o := ?oc9) ?hic9 (by kernel_rfl) (by kernel_rfl) hcl ?restc9
          case hic9 => simp only [List.getElem?_toArray, List.getElem?_cons_succ, List.getElem?_cons_zero]; rfl
          intro K hK
          go_simp
          clear hcl
          refine hK.out _ _ (fun hcl => ?_)
          clear hK K
          try simp only [Act.put, List.setIfInBounds_toArray, List.set_cons_zero, List.set_cons_succ]
          refine anyT_last (k := 10) (o := ?oc10) ?hic10 (by kernel_rfl) (by kernel_rfl) hcl ?restc10
          case hic10 => simp only [List.getElem?_toArray, List.getElem?_cons_succ, List.getElem?_cons_zero]; rfl
          intro K hK
          go_simp
          clear hcl
          refine hK.out _ _ (fun hcl => ?_)
          clear hK K
          refine anyT_done (by kernel_rfl) ?_ _
          go_simp
          clear hcl z0' z1' f0' f1' hbw
          obtain ⟨W6, hW6⟩ : ∃ W6, W6 = (w2.setCell ⟨b5, 0, none⟩ (.slice A6 (layS m2 t2).1.length c6)).setCell ⟨b5, 1, none⟩ (.int .i64 (layS m2 t2).2) := ⟨_, rfl⟩
          rw [← hW6]
          rw [← hW6] at HJ
          clear hW6
          obtain ⟨hG2, hp2, htw6, hsb6, hown6, hB6⟩ := HJ.out
          have q0 := HQ.out W6 hB6
          obtain ⟨pA', pc', epp, hrdp, _⟩ := RdP.of_own hown6
          injection epp with e1 e2 e3
          subst e1
          subst e3
          have HAF := Lib.hid (after_any pA _ pc (prs m t) key vK false W6 hrdp (by have := HLN.out; omega))
          rw [← hp2] at HAF
          have hlen2 := aft_len key vK false (prs m t)
          rw [← hp2] at hlen2
          have HLN2 := Lib.hid hlen2
          have HSZ := Lib.hid hB6.size
          clear hlen2 hG2 hp2 htw6 hsb6 hown6 hB6 hrdp e2
          rw [← HKS.out] at HAF
          change Hid (Calls Try.prog 22 #[.slice pA (prs m t).length pc, .string s, .string ⟨#[118]⟩, .bool false] _ _) at HAF
          go_wp2_with (first
            | (go_at_call 22; (with_reducible refine HAF.out.mono ?_); rintro e w7 ⟨v7, rfl, ho7, hb7⟩; have HO7 := Lib.hid ho7; have HB7 := Lib.hid hb7; clear ho7 hb7)
            | (go_at_call 15; (with_reducible refine (HNU.out _).mono ?_); rintro e w8 ⟨rfl, rfl⟩))
          obtain ⟨hG2, hp2, htw6, hsb6, hown6, hB6⟩ := HJ.out
          go_roundw
          case rel => exact ⟨j + 1, m2, t2, A6, c6, by go_num, hlt, by omega, hG2, by have := HLN2.out; have := HLN.out; omega, htw6.below HB7.out, hsb6.below HB7.out, own_le HO7.out HSZ.out, hB6.trans (HB7.out.mono HSZ.out)⟩
          case measure => simp [intOf]; omega
      · have h60' : ¬ ((j : Int) < 60) := by omega
        obtain ⟨pA', pc', epp, hrdp, _⟩ := RdP.of_own hown
        injection epp with e1 e2 e3
        subst e1
        subst e3
        have HRG := Lib.hid (range_own hG (by omega) _ wr hW)
        have HCK := Lib.hid fun (W : World) (hb : Below wr.heap.size wr W) => check_own hG (by omega) _ W (hW.below hb)
        have HSP := Lib.hid fun (W : World) (hb : Below wr.heap.size wr W) (A' : Option Addr) (c' : Nat) (hp : RdP W A' (prs m t).length (prs m t)) => show Calls Try.prog 14 #[.slice A' (prs m t).length c', .slice pA (prs m t).length pc] W fun e w' => e = .returned (.bool true) ∧ Below W.heap.size W w' by
          have h := samePairs_any A' pA c' pc _ _ (prs m t) (prs m t) W hp (hrdp.below hb)
          rwa [decide_eq_true rfl] at h
        have HBE := Lib.hid hB
        clear hG hpl htw hsb hown hB hW hrdp e2 HI HLN
        generalize (layS m t).1 = nd at *
        generalize (layS m t).2 = rt at *
        generalize (prs m t) = l at *
        go_upto_region 17 with (first
          | (go_at_call 9; (with_reducible refine HRG.out.mono ?_); rintro e w3 ⟨B3, d3, rfl, hp3, hb3⟩; have z0 := cell_keep z0 hb3; have z1 := cell_keep z1 hb3; have HB3 := Lib.hid hb3; have HP3 := Lib.hid hp3; clear hb3 hp3))
        have HSQ := Lib.hid (HSP.out w3 HB3.out B3 d3 HP3.out)
        go_wp2_with (first
          | (go_at_call 15; (with_reducible refine (HNU.out _).mono ?_); rintro e w8 ⟨rfl, rfl⟩)
          | (go_at_call 14; (with_reducible refine HSQ.out.mono ?_); rintro e w4 ⟨rfl, hb4⟩; have z0 := cell_keep z0 hb4; have z1 := cell_keep z1 hb4; have HB4 := Lib.hid (thn HB3.out hb4); clear hb4)
          | (go_at_call 16; (with_reducible refine (HCK.out _ HB4.out).mono ?_); rintro e w5 ⟨rfl, hb5⟩; have HB5' := Lib.hid (thn HB4.out hb5); clear hb5))
        go_ret
        exact ⟨rfl, HBE.out.trans (HB5'.out.mono HBE.out.size)⟩
    · have hlt' : ¬ ((j : Int) < (l0.length : Int)) := by omega
      obtain ⟨pA', pc', epp, hrdp, _⟩ := RdP.of_own hown
      injection epp with e1 e2 e3
      subst e1
      subst e3
      have HRG := Lib.hid (range_own hG (by omega) _ wr hW)
      have HCK := Lib.hid fun (W : World) (hb : Below wr.heap.size wr W) => check_own hG (by omega) _ W (hW.below hb)
      have HSP := Lib.hid fun (W : World) (hb : Below wr.heap.size wr W) (A' : Option Addr) (c' : Nat) (hp : RdP W A' (prs m t).length (prs m t)) => show Calls Try.prog 14 #[.slice A' (prs m t).length c', .slice pA (prs m t).length pc] W fun e w' => e = .returned (.bool true) ∧ Below W.heap.size W w' by
        have h := samePairs_any A' pA c' pc _ _ (prs m t) (prs m t) W hp (hrdp.below hb)
        rwa [decide_eq_true rfl] at h
      have HBE := Lib.hid hB
      clear hG hpl htw hsb hown hB hW hrdp e2 HI HLN
      generalize (layS m t).1 = nd at *
      generalize (layS m t).2 = rt at *
      generalize (prs m t) = l at *
      go_upto_region 17 with (first
        | (go_at_call 9; (with_reducible refine HRG.out.mono ?_); rintro e w3 ⟨B3, d3, rfl, hp3, hb3⟩; have z0 := cell_keep z0 hb3; have z1 := cell_keep z1 hb3; have HB3 := Lib.hid hb3; have HP3 := Lib.hid hp3; clear hb3 hp3))
      have HSQ := Lib.hid (HSP.out w3 HB3.out B3 d3 HP3.out)
      go_wp2_with (first
        | (go_at_call 15; (with_reducible refine (HNU.out _).mono ?_); rintro e w8 ⟨rfl, rfl⟩)
        | (go_at_call 14; (with_reducible refine HSQ.out.mono ?_); rintro e w4 ⟨rfl, hb4⟩; have z0 := cell_keep z0 hb4; have z1 := cell_keep z1 hb4; have HB4 := Lib.hid (thn HB3.out hb4); clear hb4)
        | (go_at_call 16; (with_reducible refine (HCK.out _ HB4.out).mono ?_); rintro e w5 ⟨rfl, hb5⟩; have HB5' := Lib.hid (thn HB4.out hb5); clear hb5))
      go_ret
      exact ⟨rfl, HBE.out.trans (HB5'.out.mono HBE.out.size)⟩
end Go.Proofs.Ythjjhldmfmnflaa
namespace Go.Proofs.Ythjjhldmfmnflaa
open Go.ChangeShapes Go.WideShapes Go.ChangeAt Go.RowKit Go.Joins Go.Maps
set_option linter.unusedSimpArgs false
set_option linter.unusedVariables false

section
variable {H : Type} {enc : TypeId × Value → H} {w : World} {base : Nat} {spare : Nat → Bool} {held : Bool}
set_option maxRecDepth 100000 in
theorem open_keys {r : _root_.Go.Reach} {b0 : Nat} {v : Value} {d : DataW H} {p : List MemPlace} (hv : Value.okWide Try.prog w r b0 55 v) (h : DataW.Trod enc Try.prog w base spare held 55 v d p) (hw : Lt 55 d) :
    ∃ (A : Option Addr) (c : Nat) (l : List Key), v = .slice A l.length c ∧ Rd w A l.length c (strs l) ∧ l.length * 16 ≤ 140737488355328 := by
  obtain ⟨A, n, c, rfl⟩ := okWide_slice Try.underlying55 hv
  obtain ⟨fuel, hf⟩ := h
  exact open_strs (x := (d, p)) hf hw
set_option maxRecDepth 100000 in
theorem open_bools {r : _root_.Go.Reach} {b0 : Nat} {v : Value} {d : DataW H} {p : List MemPlace} (hv : Value.okWide Try.prog w r b0 56 v) (h : DataW.Trod enc Try.prog w base spare held 56 v d p) (hw : Lt 56 d) :
    ∃ (A : Option Addr) (c : Nat) (l : List Bool), v = .slice A l.length c ∧ Rd w A l.length c (bools l) ∧ l.length ≤ 140737488355328 := by
  obtain ⟨A, n, c, rfl⟩ := okWide_slice Try.underlying56 hv
  obtain ⟨fuel, hf⟩ := h
  obtain ⟨A, cp, l, e, h1, h2, h3, h4, h5⟩ := open_list (x := (d, p)) (τ := Bool) 1 1 Try.underlying56 cellsB bytesB (by decide) (fun p z => w.cell? p = some (.bool z)) (fun f cs x p hx hw hl hc => by
    obtain ⟨c0, rfl⟩ := list1 hl
    obtain ⟨b, e0, _⟩ := DataW.trod_bool Try.underlying4 hx
    simp only [List.cons.injEq, and_true] at e0
    subst e0
    have g0 := hc 0 (by omega)
    rw [add_zero] at g0
    exact ⟨b, g0⟩) hf hw
  exact ⟨A, cp, l, e, ⟨by simp [bools], h2, h3, h1, fun ad ea j u hj => by
    have hjl : j < l.length := by simpa [bools] using (List.getElem?_eq_some_iff.1 hj).1
    have := h5 ad ea j l[j] (List.getElem?_eq_getElem hjl)
    rw [Nat.mul_one] at this
    rw [this, ← hj]
    simp [bools, hjl]⟩, by omega⟩
end
end Go.Proofs.Ythjjhldmfmnflaa
