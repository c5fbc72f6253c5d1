/- For every text s: if it is read as an expression, and with four bytes more it is no longer than MaxSource, then with a blank and a bracket ahead of it, and a bracket and a line feed behind it, it is read as the same expression, or its reading says ErrMuch (one bracket more may be too deep). The listed variables hold what the program's own start leaves in them. -/
import Derived.Test.YthpjejfgoohhfaaGreatDoorRows
import Derived.Test.YthpjejfgoohhfaaGreatDoorTie
import Derived.Test.YthpjejfgoohhfaaGreatDoorCards
import Derived.Test.YthpjejfgoohhfaaGreatDoorG37
import Derived.Lib.LaidIn
import Derived.Lib.LaidU8T
import Derived.Lib.LaidRTab
import Derived.Lib.LaidTab
import Derived.Lib.LaidU8
import Derived.Lib.SmallJoins
import Derived.Lib.AppendIntMem
import Derived.LaidHandle
import Derived.LaidSub
import Derived.PinnedBridge
import Derived.ProofKit
import Derived.LaidMore
import Derived.OpenShut
import Derived.Stop.Joined
import Derived.SevenTiedAt
import Derived.MakeChecks
import Derived.Lay
import Derived.LaidOnce
import Derived.ChangeMaps5
import Derived.ChangeOld
import Derived.Deep.Strs
namespace Go.Proofs.YthpjejfgoohhfaaGreatDoor.synBracketsDone
open Go.ChangeShapes Go.WideShapes Go.ChangeAt Go.RowKit Go.Joins Go.Lib Go.Shelf
open Go.Proofs.YthpjejfgoohhfaaGreatDoor

theorem own : ownKnob Tryz.prog.godebug = none := by kernel_rfl
abbrev laid2 : List (String × DataW Unit) := Rows.synBracketsRow.laid
theorem mapM_at' {α β : Type} {f : α → Option β} {l : List α} {r : List β} (h : l.mapM f = some r) (i : Nat) (a : α) (ha : l[i]? = some a) : ∃ b, r[i]? = some b ∧ f a = some b := Lib.mapM_at h i a ha
theorem cells_of_strs {H : Type} {enc : TypeId × Value → H} {P : Program} {w : World} {base : Nat} {sp : Nat → Bool} {held : Bool} {fuel : Nat} {t e : TypeId} {n : Nat} {cs : List Value} {zs : List (List UInt8)} {p : List MemPlace}
    (ht : P.underlying t = some (.array n e)) (he : P.underlying e = some .string) (hce : P.cellsOf e = 1) (hct : P.cellsOf t = n)
    (h : DataW.trod enc P w base sp held fuel t cs = some (.agg (zs.map fun z => .lit (.string z)), p)) : ∀ (i : Nat) z, zs[i]? = some z → cs[i]? = some (.string ⟨z.toArray⟩) := by
  cases fuel with
  | zero => simp [DataW.trod] at h
  | succ fuel =>
    simp only [DataW.trod, ht, hce, hct, Nat.mul_one] at h
    split at h
    · rename_i hl
      obtain ⟨xs, hm, hx⟩ := Option.map_eq_some_iff.1 h
      have hxs : xs.map (·.1) = zs.map fun z => (DataW.lit (.string z) : DataW H) := by
        have := congrArg Prod.fst hx
        simpa using this
      have hxl : xs.length = n := by simpa using Lib.mapM_length hm
      intro i z hz
      have hi : i < n := by
        have := congrArg List.length hxs
        simp at this
        have := (List.getElem?_eq_some_iff.1 hz).1
        omega
      obtain ⟨b, hb, hf⟩ := mapM_at' hm i i (by simp [hi])
      obtain ⟨s, hc, rfl, _⟩ := DataW.trod_string he hf
      have h1 : cs[i]? = some (.string s) := by
        have := congrArg (·[0]?) hc
        simpa [List.getElem?_take, List.getElem?_drop] using this
      have h2 : (xs.map (·.1))[i]? = some (DataW.lit (.string s.data.toList) : DataW H) := by simp [hb]
      rw [hxs] at h2
      simp only [List.getElem?_map, hz, Option.map_some, Option.some.injEq, DataW.lit.injEq, Lit.string.injEq] at h2
      rw [h1, h2]
    · cases h
theorem prop_eq : (Rows.laid_unicode_properties : DataW Unit) = Lib.tabData .u8 Lib.propertiesTab := by kernel_rfl
theorem sign_eq' : (Rows.laid_verdict_lex_signs : DataW Unit) = .agg (signsL.map fun z => .lit (.string z)) := by kernel_rfl
theorem letter_eq' : Rows.laid_unicode_Letter = Lib.rtabData Lib.letterT := Pinned.letter_eq
theorem xL : RExtra Tryz.prog Tryz.lays200_ren := ⟨by kernel_rfl, by kernel_rfl, by kernel_rfl, by kernel_rfl, by kernel_rfl, by kernel_rfl, by kernel_rfl, by kernel_rfl⟩

theorem cells_of_trips {H : Type} {enc : TypeId × Value → H} {P : Program} {w : World} {base : Nat} {sp : Nat → Bool} {held : Bool} {fuel : Nat} {t e : TypeId} {n : Nat} {f0 f1 f2 : Field} {cs : List Value} {zs : List (List UInt8 × Int × Int)} {p : List MemPlace}
    (ht : P.underlying t = some (.array n e)) (he : P.underlying e = some (.struct #[f0, f1, f2])) (hs : P.underlying f0.type = some .string) (hi : P.underlying f1.type = some (.int .i64)) (hj : P.underlying f2.type = some (.int .i64)) (ce : P.cellsOf e = 3) (c0 : P.cellsOf f0.type = 1) (c1 : P.cellsOf f1.type = 1) (c2 : P.cellsOf f2.type = 1) (o0 : f0.offset = 0) (o1 : f1.offset = 1) (o2 : f2.offset = 2)
    (h : DataW.trod enc P w base sp held fuel t cs = some (.agg (zs.map fun z => .agg [.lit (.string z.1), .lit (.int .i64 z.2.1), .lit (.int .i64 z.2.2)]), p)) (i : Nat) (z : List UInt8 × Int × Int) (hz : zs[i]? = some z) : cs[i * 3]? = some (.string ⟨z.1.toArray⟩) ∧ cs[i * 3 + 1]? = some (.int .i64 z.2.1) ∧ cs[i * 3 + 2]? = some (.int .i64 z.2.2) := by
  obtain ⟨xs, m, rfl, hx, hl, hn, hel⟩ := DataW.trod_array ht h
  have hxs : xs.map (·.1) = zs.map fun z => (DataW.agg [.lit (.string z.1), .lit (.int .i64 z.2.1), .lit (.int .i64 z.2.2)] : DataW H) := by
    have := congrArg Prod.fst hx
    simpa using this.symm
  have hlen : xs.length = zs.length := by
    have := congrArg List.length hxs
    simpa using this
  have hi' : i < n := by
    have := (List.getElem?_eq_some_iff.1 hz).1
    omega
  have E := hel i hi'
  obtain ⟨x, hx1⟩ : ∃ x, xs[i]? = some x := ⟨_, List.getElem?_eq_getElem (by omega)⟩
  rw [hx1] at E
  obtain ⟨y0, y1, y2, k, rfl, _, t0, t1, t2⟩ := Go.Deep.trod_struct3 he E
  have h2 : (xs.map (·.1))[i]? = some (DataW.agg [y0.1, y1.1, y2.1] : DataW H) := by simp [hx1]
  rw [hxs] at h2
  simp only [List.getElem?_map, hz, Option.map_some, Option.some.injEq, DataW.agg.injEq, List.cons.injEq, and_true] at h2
  obtain ⟨q0, q1, q2⟩ := h2
  obtain ⟨s, hc, rfl, _⟩ := DataW.trod_string hs t0
  obtain ⟨v, hc2, rfl, _⟩ := DataW.trod_int hi t1
  obtain ⟨u, hc3, rfl, _⟩ := DataW.trod_int hj t2
  rw [o0, c0, ce] at hc
  rw [o1, c1, ce] at hc2
  rw [o2, c2, ce] at hc3
  simp only [DataW.lit.injEq, Lit.string.injEq] at q0
  simp only [DataW.lit.injEq, Lit.int.injEq, true_and] at q1 q2
  have a0 := congrArg (·[0]?) hc
  have a1 := congrArg (·[0]?) hc2
  have a2 := congrArg (·[0]?) hc3
  simp only [List.getElem?_take, List.getElem?_drop] at a0 a1 a2
  refine ⟨?_, ?_, ?_⟩
  · rw [q0]
    simpa using a0
  · rw [q1]
    simpa using a1
  · rw [q2]
    simpa using a2
theorem acc_eq : (Rows.laid_unicode_utf8_acceptRanges : DataW Unit) = Lib.acceptData := by kernel_rfl
theorem first_eq : Rows.laid_unicode_utf8_first = Lib.firstData := Pinned.utf8First_eq
theorem ssign_eq : (Rows.laid_verdict_syn_signs : DataW Unit) = .agg (sgnL.map fun z => .agg [.lit (.string z.1), .lit (.int .i64 z.2.1), .lit (.int .i64 z.2.2)]) := by kernel_rfl
abbrev plain2 : List (String × DataW Unit) := [("unicode/utf8.acceptRanges", Rows.laid_unicode_utf8_acceptRanges), ("unicode.properties", Rows.laid_unicode_properties), ("verdict/lex.signs", Rows.laid_verdict_lex_signs), ("verdict/syn.signs", Rows.laid_verdict_syn_signs), ("unicode.Letter", Rows.laid_unicode_Letter), ("unicode/utf8.first", Rows.laid_unicode_utf8_first)]
theorem plain_is : (laid2.filter fun x => x.2.handleName?.isNone) = plain2 := by kernel_rfl
theorem plain_of {W : World} (h : laidMetH Tryz.prog laid2 W) : laidMet Tryz.prog plain2 W := by
  have q := (laidMetH_iff.1 h).1
  rwa [plain_is] at q
theorem sg_cell : ∀ (k : Nat) (z : List UInt8 × Int × Int), sgnL[k]? = some z → sgCs[k * 3]? = some (.string ⟨z.1.toArray⟩) ∧ sgCs[k * 3 + 1]? = some (.int .i64 z.2.1) ∧ sgCs[k * 3 + 2]? = some (.int .i64 z.2.2)
  | 0, z, hz | 1, z, hz | 2, z, hz | 3, z, hz | 4, z, hz | 5, z, hz | 6, z, hz | 7, z, hz | 8, z, hz | 9, z, hz | 10, z, hz | 11, z, hz | 12, z, hz => by have e := Option.some.inj hz; subst e; exact ⟨rfl, rfl, rfl⟩
  | _ + 13, z, hz => by simp [sgnL] at hz
theorem rt_eq : (Tryz.prog.cutTypes.find? (·.1 == "internal/reflectlite.rtype")).map (·.2) = some 123 := by kernel_rfl
theorem err_only : ((List.range Tryz.prog.types.size).all fun t => !Tryz.prog.rowNamed t [101, 114, 114, 111, 114] || t == 66) = true := by kernel_rfl
theorem et_in : ("errors.errorType", Rows.laid_errors_errorType) ∈ laid2.filter fun x => x.2.handleName?.isSome := List.mem_filter.2 ⟨by simp [laid2, Rows.synBracketsRow], by kernel_rfl⟩
theorem et_of {W : World} (h0 : laidMetH Tryz.prog laid2 W) : W.cell? ⟨1, 0, none⟩ = some (.iface 123 (.agg #[.pointer (some ⟨11, 66, none⟩)])) := by
  have q := (laidMetH_iff.1 h0).2 _ et_in
  have hf : (("errors.errorType", Rows.laid_errors_errorType) : String × DataW Unit).2.funcsIn? = none := by kernel_rfl
  rw [hf] at q
  obtain ⟨name, u, ty, e1, e2, e3, e4, e5⟩ := q
  have hn : (("errors.errorType", Rows.laid_errors_errorType) : String × DataW Unit).2.handleName? = some [101, 114, 114, 111, 114] := by kernel_rfl
  obtain rfl := Option.some.inj (hn.symm.trans e1)
  obtain rfl := Option.some.inj (rt_eq.symm.trans e2)
  have ho := List.all_eq_true.1 err_only ty (List.mem_range.2 e3)
  rw [e4] at ho
  obtain rfl : ty = 66 := by simpa using ho
  have hg' : Tryz.prog.globalNamed "errors.errorType" = some 1 := by kernel_rfl
  rw [World.var?_cell hg' e5 0]
  have hs : Tryz.prog.globals.size = 11 := by kernel_rfl
  simp [typeHandle, hs]
theorem facts_of {W : World} (h0 : laidMetH Tryz.prog laid2 W) : RE W := by
  have h := plain_of h0
  have hT : Lib.RVar (Tryz.lays200_ren.g 8) Lib.letterT W := rvar_of_reads { Tryz.lays200 with } xL (by kernel_rfl) (by kernel_rfl) (letter_eq' ▸ Lib.laidMet.reads h (n := "unicode.Letter") (d := Rows.laid_unicode_Letter) (.tail _ (.tail _ (.tail _ (.tail _ (.head _))))))
  have hP : Lib.TabIs Tryz.prog W "unicode.properties" .u8 Lib.propertiesTab := by
    obtain ⟨g, t, cs, fuel, p, hg, ht, hvar, hd⟩ := Lib.laidMet.reads h (n := "unicode.properties") (d := Rows.laid_unicode_properties) (.tail _ (.head _))
    rw [prop_eq] at hd
    have hg' : Tryz.prog.globalNamed "unicode.properties" = some 3 := by kernel_rfl
    obtain rfl := Option.some.inj (hg'.symm.trans hg)
    have ht' : (Tryz.prog.globals[3]?).map (·.type) = some 184 := by kernel_rfl
    obtain rfl := Option.some.inj (ht'.symm.trans ht)
    unfold Lib.TabIs
    rw [hvar, ← Lib.cells_of_tab Tryz.underlying184 Tryz.underlying5 (by kernel_rfl) (by kernel_rfl) hd]
  have T : Tabs W := utf8Tabs_of_readsT (U8Types.of196 Tryz.laysValid) ⟨by kernel_rfl, by kernel_rfl, by kernel_rfl, by kernel_rfl, by kernel_rfl, by kernel_rfl, by kernel_rfl⟩ (first_eq ▸ Lib.laidMet.reads h (n := "unicode/utf8.first") (d := Rows.laid_unicode_utf8_first) (.tail _ (.tail _ (.tail _ (.tail _ (.tail _ (.head _))))))) (acc_eq ▸ Lib.laidMet.reads h (n := "unicode/utf8.acceptRanges") (d := Rows.laid_unicode_utf8_acceptRanges) (.head _))
  refine ⟨fun W' hb => ⟨Lib.tabBelow_of_tabIs hP W' hb, RVar_below hT hb⟩, fun i g hg => ?_, ?_, ⟨W.heap.size, Nat.le_refl _, T, World.block_lt_of_cell? W _ (T.1 0 (by decide)), World.block_lt_of_cell? W _ (T.2 0 (by decide)).1⟩, et_of h0⟩
  · obtain ⟨gg, t, cs, fuel, p, hg1, ht, hvar, hd⟩ := Lib.laidMet.reads h (n := "verdict/lex.signs") (d := Rows.laid_verdict_lex_signs) (.tail _ (.tail _ (.head _)))
    rw [sign_eq'] at hd
    have hg' : Tryz.prog.globalNamed "verdict/lex.signs" = some 2 := by kernel_rfl
    obtain rfl := Option.some.inj (hg'.symm.trans hg1)
    have ht' : (Tryz.prog.globals[2]?).map (·.type) = some 168 := by kernel_rfl
    obtain rfl := Option.some.inj (ht'.symm.trans ht)
    have hc := cells_of_strs Tryz.underlying168 Tryz.underlying9 (by kernel_rfl) (by kernel_rfl) hd i g hg
    have hv := World.var?_cell hg' hvar i
    rw [hv]
    simpa using hc
  · obtain ⟨gg, t, cs, fuel, p, hg1, ht, hvar, hd⟩ := Lib.laidMet.reads h (n := "verdict/syn.signs") (d := Rows.laid_verdict_syn_signs) (.tail _ (.tail _ (.tail _ (.head _))))
    rw [ssign_eq] at hd
    have hg' : Tryz.prog.globalNamed "verdict/syn.signs" = some 0 := by kernel_rfl
    obtain rfl := Option.some.inj (hg'.symm.trans hg1)
    have ht' : (Tryz.prog.globals[0]?).map (·.type) = some 80 := by kernel_rfl
    obtain rfl := Option.some.inj (ht'.symm.trans ht)
    have hc := fun i z hz => cells_of_trips Tryz.underlying80 Tryz.underlying79 Tryz.underlying9 Tryz.underlying3 Tryz.underlying3 (by kernel_rfl) (by kernel_rfl) (by kernel_rfl) (by kernel_rfl) rfl rfl rfl hd i z hz
    have hv := fun i => World.var?_cell hg' hvar i
    intro j v hj
    rw [hv]
    have hl : j < 39 := by have := (List.getElem?_eq_some_iff.1 hj).1; simpa [sgCs] using this
    obtain ⟨z, hz⟩ : ∃ z, sgnL[j / 3]? = some z := ⟨_, List.getElem?_eq_getElem (by show j / 3 < 13; omega)⟩
    obtain ⟨a0, a1, a2⟩ := hc (j / 3) z hz
    have hk := sg_cell (j / 3) z hz
    rcases (by omega : j = j / 3 * 3 ∨ j = j / 3 * 3 + 1 ∨ j = j / 3 * 3 + 2) with e | e | e
    · rw [e, hk.1] at hj; cases Option.some.inj hj; rw [e]; simpa using a0
    · rw [e, hk.2.1] at hj; cases Option.some.inj hj; rw [e]; simpa using a1
    · rw [e, hk.2.2] at hj; cases Option.some.inj hj; rw [e]; simpa using a2
theorem e1 : (plain2.filter fun x => (plain2.map (·.1)).contains x.1) = plain2 := List.filter_eq_self.2 fun x hx => List.contains_iff_mem.2 (List.mem_map.2 ⟨x, hx, rfl⟩)
theorem e2 : (plain2.filter fun x => !(plain2.map (·.1)).contains x.1) = [] := List.filter_eq_nil_iff.2 fun x hx => by rw [List.contains_iff_mem.2 (List.mem_map.2 ⟨x, hx, rfl⟩)]; simp
/-- a start that fits: the door's own run, and the listed data laid over it -/
theorem wit_met (os : Os) (args : Array Value) : laidMetH Tryz.prog laid2 (((World.doorLaid Tryz.prog 400 os).layVars Tryz.prog plain2).forCall (fun _ _ => 0) ⟨#[], args, []⟩).memory := by
  refine laidMetH_of_parts ?_ (by kernel_rfl)
  rw [plain_is]
  have h : laidMet Tryz.prog plain2 ((World.doorLaid Tryz.prog 400 os).layVars Tryz.prog plain2) := laidMet_layVars (w0 := World.doorLaid Tryz.prog 400 os) (plain2.map (·.1)) [] (by rw [e1]) (by rw [e1]; kernel_rfl) (by rw [e1]; kernel_rfl) (by rw [e2]; exact LaidIn.none)
  exact h.of_heap (by simp [World.memory, World.forCall, Input.heap])
theorem wit_os (os : Os) : ((World.doorLaid Tryz.prog 400 os).layVars Tryz.prog plain2).os = os := (World.layVars_os _ _ _).trans rfl

set_option maxRecDepth 100000 in
theorem lifted (os : Os) (started : os.Started) (H : Type) (enc : TypeId × Value → H) :
    ReturnsInHanded {} Tryz.checked os 4 .any (fun w args => (Rows.synBracketsSpec.pre enc Tryz.prog Tryz.f4 [] false w args ∧ laidMetH Tryz.prog laid2 w) ∧ sizedMet enc Tryz.prog Tryz.f4 (OpenSpec.ofChange Rows.synBracketsSpec) false w args)
      (Rows.synBracketsSpec.post enc Tryz.prog Tryz.f4 false true false false) := by
  refine returnsInHanded_of_change_and (C := Tryz.checked) (X := fun w _ => laidMetH Tryz.prog laid2 w) (fun _ _ _ hh h => h.of_heap hh) own started (by kernel_rfl) Tryz.func4
    (ChangeSpec.witness_shaped (enc := enc) (C := Tryz.checked) (os := os) (X := fun w _ => laidMetH Tryz.prog laid2 w) false ((World.doorLaid Tryz.prog 400 os).layVars Tryz.prog plain2) #[.string ⟨#[]⟩] 8 (wit_os os) (World.shaped_of_ZipB (by kernel_rfl) (by kernel_rfl)) (by kernel_rfl) (by kernel_rfl) (by kernel_rfl)
      (wit_met os _)) ?_
  intro W base args ds gs before hval0 hW _ _ hL _
  have hval : ∀ (j : Nat) t v, Tryz.f4.params[j]? = some t → args[j]? = some v → Value.okWide Tryz.prog W .any base t v := hval0
  have hW' := hW
  obtain ⟨p, q, hA0, hV, rfl, hfz, hnd⟩ := hW
  have hA : DataW.TrodAll enc Tryz.prog W 0 (fun _ => true) true Tryz.f4.params.toList args.toList ds p := hA0
  rw [Tryz.params4] at hA hval
  obtain ⟨v0, vs0, d0, ds0, p0, q0, hargs, rfl, rfl, h0, r0⟩ := trodAll_cons hA
  obtain ⟨rfl, rfl, rfl⟩ := trodAll_nil r0
  obtain rfl : args = #[v0] := by cases args; simp_all
  obtain ⟨rfl, rfl⟩ := trodVars_none hV
  simp only [List.append_nil] at hW'
  have hlt := fun x hx => hW'.lt x hx
  try simp only [List.mem_append] at hlt
  obtain ⟨s0, rfl, rfl, rfl, u0⟩ := Go.ChangeMaps.open_string Tryz.underlying9 (hval 0 9 v0 rfl rfl) h0
  clear hA0 hval0 hlt
  refine (brackets_walk s0 W  (facts_of hL) ).mono fun e W' ⟨he, bel⟩ => ?_
  subst he
  exact ⟨_, rfl, _, _, _, [], _, [], hW', trodAll_mk1 (shut_bool Tryz.underlying4 _), (trodAll_cons_mk (Go.ChangeMaps.shut_string Tryz.underlying9 u0) trodAll_mk0), rfl, bel.frame _, fun h => by cases h⟩

theorem over : Rows.synBracketsRow.holds Tryz.pinned (OpenSpec.ofChange Rows.synBracketsSpec) :=
  OpenClaim.holds_of_wide 4 Tryz.f4 rfl rfl rfl rfl rfl rfl rfl ⟨rfl, rfl, rfl, rfl, rfl⟩ rfl rfl rfl rfl rfl (by kernel_rfl) Tryz.func4 (by kernel_rfl)
    (of_decide_eq_true (by kernel_rfl)) (by unfold Func.isWrapper; first | (rw [if_pos (by decide +kernel)]; kernel_rfl) | (rw [if_neg (by decide +kernel)]; exact ⟨rfl, rfl⟩))
    (fun os started H enc _ => lifted os started H enc)
end Go.Proofs.YthpjejfgoohhfaaGreatDoor.synBracketsDone
namespace Go.Proofs.YthpjejfgoohhfaaGreatDoor
open Go
theorem synBrackets_holds : Rows.SynBracketsCardSaid :=
  Claim7.holds_tied_plain_at .later [] [.data, .handle, .data, .data, .data, .pinned, .pinned] true Rows.synBracketsCard.stood.harness true
    synBracketsDone.over (fun _ h => by cases h) (by kernel_rfl) (fun _ h => by cases h) synBrackets_row_tie rfl ⟨rfl, rfl⟩ (by kernel_rfl) rfl
    (fun f fn hf hfn => by
      obtain rfl : f = 4 := Option.some.inj ((show Tryz.prog.funcNamed Tryz.f4.name = some 4 by kernel_rfl).symm.trans hf) |>.symm
      obtain rfl : fn = Tryz.f4 := (Option.some.inj (Tryz.func4.symm.trans hfn)).symm
      exact ⟨by kernel_rfl, fun j t ht => by
        rw [Tryz.params4] at ht
        have hm : t ∈ [9] := by simpa using Array.mem_of_getElem? ht
        have hall : ([9].all fun u => !Tryz.prog.wantsStandIn u) = true := by kernel_rfl
        exact (show Tryz.prog.wantsStandIn t = false by simpa using List.all_eq_true.1 hall t hm)⟩)
    (by kernel_rfl)
end Go.Proofs.YthpjejfgoohhfaaGreatDoor
