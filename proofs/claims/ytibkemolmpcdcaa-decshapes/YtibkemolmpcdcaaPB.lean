/- DecShapes returns true for every number and every count of places, and leaves them as they were. No condition. -/
import Derived.Test.YtibkemolmpcdcaaRows
import Derived.Test.YtibkemolmpcdcaaG18
import Derived.ProofKit
import Derived.OpenShut
import Derived.ChangeOld
import Derived.Lib.SmallJoins
namespace Go.Proofs.Ytibkemolmpcdcaa.decShapesDone
open Go.ChangeShapes Go.WideShapes Go.ChangeAt Go.RowKit Go.Joins
open Go.Proofs.Ytibkemolmpcdcaa

theorem own : ownKnob Try.prog.godebug = none := by kernel_rfl
theorem cellsDec : Try.prog.cellsOf 23 = 2 := by kernel_rfl

set_option maxRecDepth 100000 in
theorem lifted (os : Os) (started : os.Started) (H : Type) (enc : TypeId × Value → H) :
    ReturnsInHanded {} Try.checked os 4 .any (Rows.decShapesSpec.pre6 enc Try.prog Try.f4 Rows.decShapesRow.domain false) (Rows.decShapesSpec.post enc Try.prog Try.f4 false true false false) := by
  refine returnsInHanded_of_change (C := Try.checked) own started (by kernel_rfl) Try.func4
    (ChangeSpec.witness6 (enc := enc) (C := Try.checked) false ⟨#[], #[.agg #[.int .i64 0, .int .i64 0], .int .i64 0], []⟩ 8 (by kernel_rfl) (by kernel_rfl) (by kernel_rfl) (by kernel_rfl)) ?_
  intro W base args ds gs before hval0 hW hcnd _
  have hval : ∀ (j : Nat) t v, Try.f4.params[j]? = some t → args[j]? = some v → Value.okWide Try.prog W .any base t v := hval0
  have hW' := hW
  obtain ⟨p, q, hA0, hV, rfl, hfz, hnd⟩ := hW
  have hA : DataW.TrodAll enc Try.prog W 0 (fun _ => true) true Try.f4.params.toList args.toList ds p := hA0
  rw [Try.params4] at hA hval
  obtain ⟨v0, vs0, d0, ds0, p0, q0, hargs, rfl, rfl, h0, r0⟩ := trodAll_cons hA
  obtain ⟨v1, vs1, d1, ds1, p1, q1, rfl, rfl, rfl, h1, r1⟩ := trodAll_cons r0
  obtain ⟨rfl, rfl, rfl⟩ := trodAll_nil r1
  obtain rfl : args = #[v0, v1] := by cases args; simp_all
  obtain ⟨rfl, rfl⟩ := trodVars_none hV
  have T := Try.underlying23
  obtain ⟨a0, b0, y0, z0, m0, rfl, rfl, rfl, hy0, hz0⟩ := open_agg2 T (by kernel_rfl) cellsDec (hval 0 23 v0 rfl rfl) h0
  obtain ⟨c0, e0, rfl, u0⟩ := DataW.trod_int Try.underlying2 hy0
  obtain ⟨x0, f0, rfl, t0⟩ := DataW.trod_int Try.underlying3 hz0
  obtain ⟨c1, rfl, rfl, rfl, u1⟩ := open_int Try.underlying3 (hval 1 3 v1 rfl rfl) h1
  simp at e0 f0
  subst e0 f0
  clear hA0 hval0
  simp only [List.append_nil] at hW'
  have reads : ∀ (W' : World) (sp : Nat → Bool) (c x : Int), (Lit.int .i64 c).wf = true → (Lit.int .i64 x).wf = true → DataW.Trod enc Try.prog W' 0 sp true 23 (.agg #[.int .i64 c, .int .i64 x]) (.agg [.lit (.int .i64 c), .lit (.int .i64 x)]) [] := fun W' sp c x hc hx =>
    shut_agg2 (y0 := (.lit (.int .i64 c), [])) (y1 := (.lit (.int .i64 x), [])) Try.underlying23 (by kernel_rfl) cellsDec ⟨1, by simp [DataW.trod, Try.underlying2, hc]⟩ ⟨1, by simp [DataW.trod, Try.underlying3, hx]⟩
  refine (shapes_walk c0 x0 c1 W).mono fun e W' ⟨he, bel⟩ => ?_
  subst he
  exact ⟨_, rfl, _, _, _, [], [], [], hW', trodAll_mk1 (shut_bool Try.underlying4 _), (trodAll_cons_mk (reads _ _ c0 x0 u0 t0) (trodAll_cons_mk (shut_int Try.underlying3 u1) trodAll_mk0)), rfl, bel.frame _, fun h => by cases h⟩

theorem over : Rows.decShapesRow.holds Try.pinned (OpenSpec.ofChange Rows.decShapesSpec) :=
  OpenClaim.holds_of_wide 4 Try.f4 rfl rfl rfl rfl rfl rfl rfl ⟨rfl, rfl, rfl, rfl, rfl⟩ rfl rfl rfl rfl rfl (by kernel_rfl) Try.func4 (by kernel_rfl)
    (of_decide_eq_true (by kernel_rfl)) (by unfold Func.isWrapper; first | (rw [if_pos (by decide +kernel)]; kernel_rfl) | (rw [if_neg (by decide +kernel)]; exact ⟨rfl, rfl⟩))
    (fun os started H enc _ => lifted os started H enc)
end Go.Proofs.Ytibkemolmpcdcaa.decShapesDone
namespace Go.Proofs.Ytibkemolmpcdcaa
theorem decShapes_holds : Rows.DecShapesSaid := decShapesDone.over
end Go.Proofs.Ytibkemolmpcdcaa
