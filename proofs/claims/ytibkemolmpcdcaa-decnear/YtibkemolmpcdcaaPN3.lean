/- DecNear returns true for every two numbers and every operator, and leaves them as they were. No condition. -/
import Derived.Test.YtibkemolmpcdcaaRows
import Derived.Test.YtibkemolmpcdcaaG19
import Derived.ProofKit
import Derived.OpenShut
import Derived.ChangeOld
import Derived.Lib.SmallJoins
namespace Go.Proofs.Ytibkemolmpcdcaa.decNearDone
open Go.ChangeShapes Go.WideShapes Go.ChangeAt Go.RowKit Go.Joins
open Go.Proofs.Ytibkemolmpcdcaa

theorem own : ownKnob Try.prog.godebug = none := by kernel_rfl
theorem cellsDec : Try.prog.cellsOf 23 = 2 := by kernel_rfl

set_option maxRecDepth 100000 in
theorem lifted (os : Os) (started : os.Started) (H : Type) (enc : TypeId × Value → H) :
    ReturnsInHanded {} Try.checked os 5 .any (Rows.decNearSpec.pre6 enc Try.prog Try.f5 Rows.decNearRow.domain false) (Rows.decNearSpec.post enc Try.prog Try.f5 false true false false) := by
  refine returnsInHanded_of_change (C := Try.checked) own started (by kernel_rfl) Try.func5
    (ChangeSpec.witness6 (enc := enc) (C := Try.checked) false ⟨#[], #[.agg #[.int .i64 0, .int .i64 0], .agg #[.int .i64 0, .int .i64 0], .int .i64 0], []⟩ 8 (by kernel_rfl) (by kernel_rfl) (by kernel_rfl) (by kernel_rfl)) ?_
  intro W base args ds gs before hval0 hW hcnd _
  have hval : ∀ (j : Nat) t v, Try.f5.params[j]? = some t → args[j]? = some v → Value.okWide Try.prog W .any base t v := hval0
  have hW' := hW
  obtain ⟨p, q, hA0, hV, rfl, hfz, hnd⟩ := hW
  have hA : DataW.TrodAll enc Try.prog W 0 (fun _ => true) true Try.f5.params.toList args.toList ds p := hA0
  rw [Try.params5] at hA hval
  obtain ⟨v0, vs0, d0, ds0, p0, q0, hargs, rfl, rfl, h0, r0⟩ := trodAll_cons hA
  obtain ⟨v1, vs1, d1, ds1, p1, q1, rfl, rfl, rfl, h1, r1⟩ := trodAll_cons r0
  obtain ⟨v2, vs2, d2, ds2, p2, q2, rfl, rfl, rfl, h2, r2⟩ := trodAll_cons r1
  obtain ⟨rfl, rfl, rfl⟩ := trodAll_nil r2
  obtain rfl : args = #[v0, v1, v2] := by cases args; simp_all
  obtain ⟨rfl, rfl⟩ := trodVars_none hV
  have T := Try.underlying23
  obtain ⟨a0, b0, y0, z0, m0, rfl, rfl, rfl, hy0, hz0⟩ := open_agg2 T (by kernel_rfl) cellsDec (hval 0 23 v0 rfl rfl) h0
  obtain ⟨c0, e0, rfl, u0⟩ := DataW.trod_int Try.underlying2 hy0
  obtain ⟨x0, f0, rfl, t0⟩ := DataW.trod_int Try.underlying3 hz0
  obtain ⟨a1, b1, y1, z1, m1, rfl, rfl, rfl, hy1, hz1⟩ := open_agg2 T (by kernel_rfl) cellsDec (hval 1 23 v1 rfl rfl) h1
  obtain ⟨c1, e1, rfl, u1⟩ := DataW.trod_int Try.underlying2 hy1
  obtain ⟨x1, f1, rfl, t1⟩ := DataW.trod_int Try.underlying3 hz1
  obtain ⟨c2, rfl, rfl, rfl, u2⟩ := open_int Try.underlying3 (hval 2 3 v2 rfl rfl) h2
  simp at e0 f0 e1 f1
  subst e0 f0 e1 f1
  clear hA0 hval0
  simp only [List.append_nil] at hW'
  have reads : ∀ (W' : World) (sp : Nat → Bool) (c x : Int), (Lit.int .i64 c).wf = true → (Lit.int .i64 x).wf = true → DataW.Trod enc Try.prog W' 0 sp true 23 (.agg #[.int .i64 c, .int .i64 x]) (.agg [.lit (.int .i64 c), .lit (.int .i64 x)]) [] := fun W' sp c x hc hx =>
    shut_agg2 (y0 := (.lit (.int .i64 c), [])) (y1 := (.lit (.int .i64 x), [])) Try.underlying23 (by kernel_rfl) cellsDec ⟨1, by simp [DataW.trod, Try.underlying2, hc]⟩ ⟨1, by simp [DataW.trod, Try.underlying3, hx]⟩
  refine (near_walk c0 x0 c1 x1 c2 W).mono fun e W' ⟨he, bel⟩ => ?_
  subst he
  exact ⟨_, rfl, _, _, _, [], [], [], hW', trodAll_mk1 (shut_bool Try.underlying4 _), (trodAll_cons_mk (reads _ _ c0 x0 u0 t0) (trodAll_cons_mk (reads _ _ c1 x1 u1 t1) (trodAll_cons_mk (shut_int Try.underlying3 u2) trodAll_mk0))), rfl, bel.frame _, fun h => by cases h⟩

theorem over : Rows.decNearRow.holds Try.pinned (OpenSpec.ofChange Rows.decNearSpec) :=
  OpenClaim.holds_of_wide 5 Try.f5 rfl rfl rfl rfl rfl rfl rfl ⟨rfl, rfl, rfl, rfl, rfl⟩ rfl rfl rfl rfl rfl (by kernel_rfl) Try.func5 (by kernel_rfl)
    (of_decide_eq_true (by kernel_rfl)) (by unfold Func.isWrapper; first | (rw [if_pos (by decide +kernel)]; kernel_rfl) | (rw [if_neg (by decide +kernel)]; exact ⟨rfl, rfl⟩))
    (fun os started H enc _ => lifted os started H enc)
end Go.Proofs.Ytibkemolmpcdcaa.decNearDone
namespace Go.Proofs.Ytibkemolmpcdcaa
theorem decNear_holds : Rows.DecNearSaid := decNearDone.over
end Go.Proofs.Ytibkemolmpcdcaa
