/- errors.As of an error of reading (after the kit's worked toy of errors.As), and of nothing. -/
import Derived.Test.YthpjejfgoohhfaaGreatDoorG34
import Derived.WalkKit
import Derived.LaidEql
import Derived.Stop.Asserts
import Derived.RowKitTokens
import Derived.Test.YthpjejfgoohhfaaGreatDoorG22
import Derived.Test.YthpjejfgoohhfaaGreatDoorG09
import Derived.Test.YthpjejfgoohhfaaGreatDoorG24
namespace Go.Proofs.YthpjejfgoohhfaaGreatDoor
open Go.RowKit Go.MapKept Go.Extern.Stop Go.Stop Go.Extern

theorem as_nil (t : Value) (w : World) :
    Calls Tryz.prog 18 #[.nilIface, t] w fun r w' => r = .returned (.bool false) ∧ w' = w := by
  go_enter Tryz.func18, Tryz.ntmps18
  go_wp2
  go_ret
  exact ⟨rfl, rfl⟩

theorem ua_valueP (t : Addr) (w : World) : (ReflectliteValue.unpack (.iface 72 (.pointer (some t)))).run Tryz.prog w
    = .ok (.agg #[.pointer (some ⟨11, 72, none⟩), .pointer (some ⟨w.heap.size, 0, none⟩), .int .u64 150]) (w.alloc (.cells #[.pointer (some t)] 72)) := by kernel_rfl
theorem ua_typeP (a : Addr) (w : World) : (ReflectliteValue.methodAny (ReflectliteValue.valueError "reflectlite.Value.Type" 0) (fun t _ _ _ => ReflectliteType.toType t) #[.agg #[.pointer (some ⟨11, 72, none⟩), .pointer (some a), .int .u64 150]]).run Tryz.prog w
    = .ok (.iface 123 (.agg #[.pointer (some ⟨11, 72, none⟩)])) w := by kernel_rfl
theorem ua_methodKind (h : Value) (w : World) : (Go.method 362 123 (.agg #[h]) "Kind").run Tryz.prog w = .ok (159, h) w := by kernel_rfl
theorem ua_kindP (w : World) : ((ReflectliteType.abiMethod fun t => (fun a : Nat => Value.int IntKind.u8 (a : Int)) <$> Rtype.kind t) #[.pointer (some ⟨11, 72, none⟩)]).run Tryz.prog w = .ok (.int .u8 22) w := by kernel_rfl
theorem ua_kindU (w : World) : ((ReflectliteType.abiMethod fun t => (fun a : Nat => Value.int IntKind.u8 (a : Int)) <$> Rtype.kind t) #[.pointer (some ⟨11, 70, none⟩)]).run Tryz.prog w = .ok (.int .u8 25) w := by kernel_rfl
theorem ua_rlm (z : Sem Value) (f : TypeId → Addr → Nat → Nat → Sem Value) (v : Value) :
    ReflectliteValue.method z f #[v] = (do match ← ReflectliteValue.parts v with | none => z | some (t, a, fl) => f t a fl (fl % 32)) := rfl
theorem ua_partsP (a : Addr) (w : World) : (ReflectliteValue.parts (.agg #[.pointer (some ⟨11, 72, none⟩), .pointer (some a), .int .u64 150])).run Tryz.prog w = .ok (some (72, a, 150)) w := by kernel_rfl
theorem ua_isNil (a p : Addr) (W : World) (ha : W.cell? a = some (.pointer (some p))) :
    (ReflectliteValue.method (ReflectliteValue.valueError "reflectlite.Value.IsNil" 0) ReflectliteValue.isNil #[.agg #[.pointer (some ⟨11, 72, none⟩), .pointer (some a), .int .u64 150]]).run Tryz.prog W = .ok (.bool false) W := by
  rw [ua_rlm]
  simp only [Sem.run_bind, ua_partsP, Result.andThen]
  simp [ReflectliteValue.isNil, loadVar, isAgg, underlying, Tryz.underlying72, ha, Result.andThen]
theorem ua_methodElem (h : Value) (w : World) : (Go.method 362 123 (.agg #[h]) "Elem").run Tryz.prog w = .ok (170, .agg #[h]) w := by kernel_rfl
theorem ua_methodImplements (h : Value) (w : World) : (Go.method 362 123 (.agg #[h]) "Implements").run Tryz.prog w = .ok (171, .agg #[h]) w := by kernel_rfl
theorem ua_methodAssignableTo (h : Value) (w : World) : (Go.method 362 123 (.agg #[h]) "AssignableTo").run Tryz.prog w = .ok (168, .agg #[h]) w := by kernel_rfl
theorem ua_elemT (w : World) : (ReflectliteType.method ReflectliteType.elem #[.agg #[.pointer (some ⟨11, 72, none⟩)]]).run Tryz.prog w = .ok (.iface 123 (.agg #[.pointer (some ⟨11, 70, none⟩)])) w := by kernel_rfl
theorem ua_implements (w : World) : (ReflectliteType.relation "Implements" ReflectliteType.implements_ #[.agg #[.pointer (some ⟨11, 70, none⟩)], .iface 123 (.agg #[.pointer (some ⟨11, 66, none⟩)])]).run Tryz.prog w = .ok (.bool true) w := by kernel_rfl
theorem ua_typeOf (v : Value) (w : World) : (ReflectliteType.typeOf #[.iface 70 v]).run Tryz.prog w = .ok (.iface 123 (.agg #[.pointer (some ⟨11, 70, none⟩)])) w := by kernel_rfl
theorem ua_assignable (w : World) : (ReflectliteType.relation "AssignableTo" ReflectliteType.assignableTo #[.agg #[.pointer (some ⟨11, 70, none⟩)], .iface 123 (.agg #[.pointer (some ⟨11, 70, none⟩)])]).run Tryz.prog w = .ok (.bool true) w := by kernel_rfl
theorem ua_valueU (c a : Int) (w : World) : (ReflectliteValue.unpack (.iface 70 (.agg #[.int .i64 c, .int .i64 a]))).run Tryz.prog w
    = .ok (.agg #[.pointer (some ⟨11, 70, none⟩), .pointer (some ⟨w.heap.size, 0, none⟩), .int .u64 153]) (w.alloc (.cells #[.int .i64 c, .int .i64 a] 70)) := by kernel_rfl
theorem ua_elemOf (w : World) : (Rtype.elem? 72).run Tryz.prog w = .ok (some 70) w := by kernel_rfl
theorem ua_mk (p : Addr) (w : World) : (ReflectliteValue.mk 70 p ReflectliteValue.flagAddr).run Tryz.prog w = .ok (.agg #[.pointer (some ⟨11, 70, none⟩), .pointer (some p), .int .u64 409]) w := by kernel_rfl
theorem ua_elemV (a p : Addr) (W : World) (ha : W.cell? a = some (.pointer (some p))) :
    (ReflectliteValue.method (ReflectliteValue.valueError "reflectlite.Value.Elem" 0) ReflectliteValue.elem #[.agg #[.pointer (some ⟨11, 72, none⟩), .pointer (some a), .int .u64 150]]).run Tryz.prog W
      = .ok (.agg #[.pointer (some ⟨11, 70, none⟩), .pointer (some p), .int .u64 409]) W := by
  rw [ua_rlm]
  simp only [Sem.run_bind, ua_partsP, Result.andThen]
  simp [ReflectliteValue.elem, loadVar, isAgg, underlying, Tryz.underlying72, ha, Result.andThen, ua_elemOf, ua_mk]
end Go.Proofs.YthpjejfgoohhfaaGreatDoor

/- errors.As of an error of reading. -/
namespace Go.Proofs.YthpjejfgoohhfaaGreatDoor
open Go.RowKit Go.MapKept Go.Extern.Stop Go.Stop Go.Extern

theorem ua_rls (v x : Value) : ReflectliteValue.set #[v, x] = (do
    let (some (dst, a, fl), some (src, b, _)) := (← ReflectliteValue.parts v, ← ReflectliteValue.parts x)
      | unsupported (.noEntry "extern/(internal/reflectlite.Value).Set.zeroValue")
    if fl / ReflectliteValue.flagAddr % 2 == 0 then unsupported (.noEntry "extern/(internal/reflectlite.Value).Set.unaddressable")
    let val ← loadVar src b
    if ← Rtype.directlyAssignable dst src then storeVar dst a val
    else if ← Rtype.implements dst src then
      if (← Rtype.kind src) == 20 then
        match val with
        | .nilIface => unsupported (.noEntry "extern/reflectlite: a nil value of one interface type handed on as a value of another")
        | _ => storeVar dst a val
      else storeVar dst a (.iface src val)
    else panicString ("reflectlite.Set: value of type " ++ (← Rtype.spelt src) ++ " is not assignable to type " ++ (← Rtype.spelt dst))
    pure (.tuple #[])) := rfl
theorem ua_partsUa (a : Addr) (w : World) : (ReflectliteValue.parts (.agg #[.pointer (some ⟨11, 70, none⟩), .pointer (some a), .int .u64 409])).run Tryz.prog w = .ok (some (70, a, 409)) w := by kernel_rfl
theorem ua_partsU (a : Addr) (w : World) : (ReflectliteValue.parts (.agg #[.pointer (some ⟨11, 70, none⟩), .pointer (some a), .int .u64 153])).run Tryz.prog w = .ok (some (70, a, 153)) w := by kernel_rfl
theorem ua_direct (w : World) : (Rtype.directlyAssignable 70 70).run Tryz.prog w = .ok true w := by kernel_rfl
theorem ua_size (w : World) : (sizeOf 70).run Tryz.prog w = .ok 2 w := by kernel_rfl
theorem ua_set (q b : Nat) (c a : Int) (o0 o1 : Value) (W : World) (hb0 : W.cell? ⟨b, 0, none⟩ = some (.int .i64 c)) (hb1 : W.cell? ⟨b, 1, none⟩ = some (.int .i64 a)) (ht0 : W.cell? ⟨q, 0, none⟩ = some o0) (ht1 : W.cell? ⟨q, 1, none⟩ = some o1) (hf0 : W.frozen? ⟨q, 0, none⟩ = false) (hf1 : W.frozen? ⟨q, 1, none⟩ = false) :
    (ReflectliteValue.set #[.agg #[.pointer (some ⟨11, 70, none⟩), .pointer (some ⟨q, 0, none⟩), .int .u64 409], .agg #[.pointer (some ⟨11, 70, none⟩), .pointer (some ⟨b, 0, none⟩), .int .u64 153]]).run Tryz.prog W
      = .ok (.tuple #[]) ((W.setCell ⟨q, 0, none⟩ (.int .i64 c)).setCell ⟨q, 1, none⟩ (.int .i64 a)) := by
  have hl : (loadVar 70 ⟨b, 0, none⟩).run Tryz.prog W = .ok (.agg #[.int .i64 c, .int .i64 a]) W := by
    have := run_loadVar_cells (P := Tryz.prog) W b 70 [.int .i64 c, .int .i64 a] _ (fun j v hj => by
      match j, hj with
      | 0, hj => simp at hj; subst hj; exact hb0
      | 1, hj => simp at hj; subst hj; exact hb1
      | k + 2, hj => simp at hj) Tryz.underlying70 rfl (by kernel_rfl)
    simpa using this
  have hst : (storeVar 70 ⟨q, 0, none⟩ (.agg #[.int .i64 c, .int .i64 a])).run Tryz.prog W = .ok () ((W.setCell ⟨q, 0, none⟩ (.int .i64 c)).setCell ⟨q, 1, none⟩ (.int .i64 a)) := by
    simp [storeVar, Value.cells, storeCells, Addr.add, go_sem, ht0, ht1, hf0, hf1]
  rw [ua_rls]
  simp only [Sem.run_bind, ua_partsUa, ua_partsU, Result.andThen]
  simp [ReflectliteValue.flagAddr, hl, Result.andThen, ua_direct, hst]

set_option maxRecDepth 100000 in
set_option maxHeartbeats 8000000 in
theorem as_hit (q : Nat) (c a : Int) (o0 o1 : Value) (w : World) (hg : w.cell? ⟨1, 0, none⟩ = some (.iface 123 (.agg #[.pointer (some ⟨11, 66, none⟩)]))) (ht0 : w.cell? ⟨q, 0, none⟩ = some o0) (ht1 : w.cell? ⟨q, 1, none⟩ = some o1) (hf0 : w.frozen? ⟨q, 0, none⟩ = false) (hf1 : w.frozen? ⟨q, 1, none⟩ = false) :
    Calls Tryz.prog 18 #[.iface 70 (.agg #[.int .i64 c, .int .i64 a]), .iface 72 (.pointer (some ⟨q, 0, none⟩))] w fun ev w' => ev = .returned (.bool true) ∧ w' = ((((((w.alloc (.cells #[.pointer (some ⟨q, 0, none⟩)] 72)).alloc (.cells #[.pointer (some ⟨11, 72, none⟩), .pointer (some ⟨w.heap.size, 0, none⟩), .int .u64 150] 94)).alloc (.cells #[.pointer (some ⟨11, 72, none⟩), .pointer (some ⟨w.heap.size, 0, none⟩), .int .u64 150] 94)).alloc (.cells #[.int .i64 c, .int .i64 a] 70)).setCell ⟨q, 0, none⟩ (.int .i64 c)).setCell ⟨q, 1, none⟩ (.int .i64 a)) := by
  have h6 := @run_callFunc_extern Tryz.prog 28 _ (fun args => ReflectliteValue.unpack (args.getD 0 (.tuple #[]))) Tryz.func28 (by kernel_rfl) (by kernel_rfl) (by kernel_rfl) (by kernel_rfl)
  have h7 := @run_callFunc_extern Tryz.prog 29 _ (ReflectliteValue.methodAny (ReflectliteValue.valueError "reflectlite.Value.Type" 0) (fun t _ _ _ => ReflectliteType.toType t)) Tryz.func29 (by kernel_rfl) (by kernel_rfl) (by kernel_rfl) (by kernel_rfl)
  have h8 := @run_callFunc_extern Tryz.prog 30 _ (ReflectliteValue.method (ReflectliteValue.valueError "reflectlite.Value.IsNil" 0) ReflectliteValue.isNil) Tryz.func30 (by kernel_rfl) (by kernel_rfl) (by kernel_rfl) (by kernel_rfl)
  have h27 := @run_callFunc_extern Tryz.prog 159 _ (ReflectliteType.abiMethod fun t => do pure (.int .u8 (← Rtype.kind t))) Tryz.func159 (by kernel_rfl) (by kernel_rfl) (by kernel_rfl) (by kernel_rfl)
  have h37 := @run_callFunc_extern Tryz.prog 170 _ (ReflectliteType.method ReflectliteType.elem) Tryz.func170 (by kernel_rfl) (by kernel_rfl) (by kernel_rfl) (by kernel_rfl)
  have h38 := @run_callFunc_extern Tryz.prog 171 _ (ReflectliteType.relation "Implements" ReflectliteType.implements_) Tryz.func171 (by kernel_rfl) (by kernel_rfl) (by kernel_rfl) (by kernel_rfl)
  have h10 := @run_callFunc_extern Tryz.prog 49 _ ReflectliteType.typeOf Tryz.func49 (by kernel_rfl) (by kernel_rfl) (by kernel_rfl) (by kernel_rfl)
  have h35 := @run_callFunc_extern Tryz.prog 168 _ (ReflectliteType.relation "AssignableTo" ReflectliteType.assignableTo) Tryz.func168 (by kernel_rfl) (by kernel_rfl) (by kernel_rfl) (by kernel_rfl)
  have h11 := @run_callFunc_extern Tryz.prog 50 _ (ReflectliteValue.method (ReflectliteValue.valueError "reflectlite.Value.Elem" 0) ReflectliteValue.elem) Tryz.func50 (by kernel_rfl) (by kernel_rfl) (by kernel_rfl) (by kernel_rfl)
  have h12 := @run_callFunc_extern Tryz.prog 51 _ ReflectliteValue.set Tryz.func51 (by kernel_rfl) (by kernel_rfl) (by kernel_rfl) (by kernel_rfl)
  have tO := ua_typeOf
  have mA := ua_methodAssignableTo
  have a25 := ua_assignable
  have v25 := ua_valueU
  have f6 := ua_valueP
  have f7 := ua_typeP
  have mK := ua_methodKind
  have mE := ua_methodElem
  have mI := ua_methodImplements
  have k27 := ua_kindP
  have k25 := ua_kindU
  have e27 := ua_elemT
  have i25 := ua_implements
  have lg := low_of_cell hg
  have lq := low_of_cell ht0
  have n8 := ua_isNil ⟨w.heap.size, 0, none⟩ ⟨q, 0, none⟩ ((w.alloc (.cells #[.pointer (some ⟨q, 0, none⟩)] 72)).alloc (.cells #[.pointer (some ⟨11, 72, none⟩), .pointer (some ⟨w.heap.size, 0, none⟩), .int .u64 150] 94)) (by rw [World.cell?_alloc_lt _ _ ⟨w.heap.size, 0, none⟩ (by simp)]; simp)
  have hg2 : ((w.alloc (.cells #[.pointer (some ⟨q, 0, none⟩)] 72)).alloc (.cells #[.pointer (some ⟨11, 72, none⟩), .pointer (some ⟨w.heap.size, 0, none⟩), .int .u64 150] 94)).cell? ⟨1, 0, none⟩ = some (.iface 123 (.agg #[.pointer (some ⟨11, 66, none⟩)])) := by
    rw [World.cell?_alloc_lt _ _ ⟨1, 0, none⟩ (by simp; omega), World.cell?_alloc_lt _ _ ⟨1, 0, none⟩ lg]; exact hg
  have el := ua_elemV ⟨w.heap.size, 0, none⟩ ⟨q, 0, none⟩ (((w.alloc (.cells #[.pointer (some ⟨q, 0, none⟩)] 72)).alloc (.cells #[.pointer (some ⟨11, 72, none⟩), .pointer (some ⟨w.heap.size, 0, none⟩), .int .u64 150] 94)).alloc (.cells #[.pointer (some ⟨11, 72, none⟩), .pointer (some ⟨w.heap.size, 0, none⟩), .int .u64 150] 94)) (by rw [World.cell?_alloc_lt _ _ ⟨w.heap.size, 0, none⟩ (by simp; omega), World.cell?_alloc_lt _ _ ⟨w.heap.size, 0, none⟩ (by simp)]; simp)
  have st := ua_set q (w.heap.size + 1 + 1 + 1) c a o0 o1 ((((w.alloc (.cells #[.pointer (some ⟨q, 0, none⟩)] 72)).alloc (.cells #[.pointer (some ⟨11, 72, none⟩), .pointer (some ⟨w.heap.size, 0, none⟩), .int .u64 150] 94)).alloc (.cells #[.pointer (some ⟨11, 72, none⟩), .pointer (some ⟨w.heap.size, 0, none⟩), .int .u64 150] 94)).alloc (.cells #[.int .i64 c, .int .i64 a] 70))
    (by rw [World.cell?_alloc_at _ _ _ _ (by simp)]; rfl)
    (by rw [World.cell?_alloc_at _ _ _ _ (by simp)]; rfl)
    (by rw [World.cell?_alloc_lt _ _ ⟨q, 0, none⟩ (by simp; omega), World.cell?_alloc_lt _ _ ⟨q, 0, none⟩ (by simp; omega), World.cell?_alloc_lt _ _ ⟨q, 0, none⟩ (by simp; omega), World.cell?_alloc_lt _ _ ⟨q, 0, none⟩ lq]; exact ht0)
    (by rw [World.cell?_alloc_lt _ _ ⟨q, 1, none⟩ (by simp; omega), World.cell?_alloc_lt _ _ ⟨q, 1, none⟩ (by simp; omega), World.cell?_alloc_lt _ _ ⟨q, 1, none⟩ (by simp; omega), World.cell?_alloc_lt _ _ ⟨q, 1, none⟩ lq]; exact ht1)
    (by rw [World.frozen?_alloc_old _ _ ⟨q, 0, none⟩ (by simp; omega), World.frozen?_alloc_old _ _ ⟨q, 0, none⟩ (by simp; omega), World.frozen?_alloc_old _ _ ⟨q, 0, none⟩ (by simp; omega), World.frozen?_alloc_old _ _ ⟨q, 0, none⟩ (Nat.ne_of_lt lq)]; exact hf0)
    (by rw [World.frozen?_alloc_old _ _ ⟨q, 1, none⟩ (by simp; omega), World.frozen?_alloc_old _ _ ⟨q, 1, none⟩ (by simp; omega), World.frozen?_alloc_old _ _ ⟨q, 1, none⟩ (by simp; omega), World.frozen?_alloc_old _ _ ⟨q, 1, none⟩ (Nat.ne_of_lt lq)]; exact hf1)
  go_enter Tryz.func18, Tryz.ntmps18
  go_wp2
  refine wp_loop_rounds 1 ?_
  rw [rounds_succ]
  go_wp2
  go_ret
  exact ⟨rfl, rfl⟩
end Go.Proofs.YthpjejfgoohhfaaGreatDoor

/- Tokens are few and short (plain). -/
namespace Go.Proofs.YthpjejfgoohhfaaGreatDoor
open Go.RowKit

theorem ql_ge : ∀ l : List UInt8, l.length ≤ ql l
  | [] => by simp [ql]
  | b :: l => by
    have h := ql_ge l
    have e : ql (b :: l) = (qb b).length + ql l := by simp [ql]
    have h1 : 1 ≤ (qb b).length := by unfold qb; split; simp; split <;> simp
    rw [e]
    simp only [List.length_cons]
    omega
theorem wl_ge (k : Int) (t : List UInt8) : t.length ≤ wl k t := by
  unfold wl
  split
  · rw [quote_len]; have := ql_ge t; omega
  · exact Nat.le_refl _

theorem toksL_small : ∀ (f at' : Nat) (l : List UInt8) (acc : List Tk), Lib.validD l = true → (toksL f at' l acc).2.1 = 0 → ∃ new, (toksL f at' l acc).1 = acc ++ new ∧ new.length ≤ l.length ∧ ∀ t ∈ new, t.t.length ≤ l.length
  | 0, _, _, acc, _, _ => ⟨[], by simp [toksL], by simp, by simp⟩
  | f + 1, at', l, acc, hv, he => by
    by_cases hl : l = []
    · subst hl
      rw [toksL_nil]
      exact ⟨[], by simp, by simp, by simp⟩
    · have hl1 : 1 ≤ l.length := by
        cases l with
        | nil => exact absurd rfl hl
        | cons _ _ => simp
      rcases hb : isBl (l.getD 0 0).toNat with _ | _
      · by_cases e : (firstF l).e = 0
        · rw [toksL_go hl hb e] at he ⊢
          obtain ⟨h1, h2⟩ := first_wl hl hv e
          obtain ⟨b1, b2⟩ := (first_bd l hl).1 e
          obtain ⟨new, q1, q2, q3⟩ := toksL_small f _ _ _ h2 he
          refine ⟨⟨(firstF l).k, (firstF l).t, (firstF l).c, (firstF l).x, at'⟩ :: new, by rw [q1]; simp, ?_, ?_⟩
          · rw [List.length_drop] at q2
            simp only [List.length_cons]
            omega
          · intro t ht
            rcases List.mem_cons.1 ht with rfl | ht
            · simp only
              have := wl_ge (firstF l).k (firstF l).t
              omega
            · have := q3 t ht
              rw [List.length_drop] at this
              omega
        · rw [toksL_no hl hb e] at he
          exact absurd he e
      · rw [toksL_bl hl hb] at he ⊢
        have h2 : Lib.validD (l.drop 1) = true := by
          cases l with
          | nil => exact absurd rfl hl
          | cons b t =>
            refine val_one hv ?_
            simp only [List.getD_cons_zero] at hb
            unfold isBl at hb
            simp at hb
            omega
        obtain ⟨new, q1, q2, q3⟩ := toksL_small f _ _ _ h2 he
        refine ⟨new, q1, ?_, fun t ht => ?_⟩
        · rw [List.length_drop] at q2; omega
        · have := q3 t ht
          rw [List.length_drop] at this
          omega

theorem toksF_small (l : List UInt8) (h : (toksF l).2.1 = 0) : (toksF l).1.length ≤ 4000 ∧ ∀ t ∈ (toksF l).1, t.t.length ≤ 4000 := by
  unfold toksF at h ⊢
  by_cases h1 : 4000 < l.length
  · rw [if_pos h1] at h; cases h
  · rw [if_neg h1] at h ⊢
    by_cases h2 : utfL l < l.length
    · rw [if_pos h2] at h; cases h
    · rw [if_neg h2] at h ⊢
      have hv : Lib.validD l = true := by
        have hle := leadL_le (gUtf l) l.length 0 l
        have := utf_valid l l.length 0 (by omega) (by omega) (by rw [List.drop_zero]; unfold utfL at h2; omega)
        rwa [List.drop_zero] at this
      obtain ⟨new, q1, q2, q3⟩ := toksL_small _ _ _ _ hv h
      rw [q1, List.nil_append]
      exact ⟨by omega, fun t ht => by have := q3 t ht; omega⟩
end Go.Proofs.YthpjejfgoohhfaaGreatDoor

/- What Read tells, in plain words; a reader is made. -/
namespace Go.Proofs.YthpjejfgoohhfaaGreatDoor
open Go.RowKit Go.MapKept

theorem valX_eq : (fun T : Tree => (wrongF T 0 1).1) = vwF := rfl
/-- what Read tells: what is wrong (0: nothing), the expression -/
def readF (l : List UInt8) : Int × XT :=
  if (toksF l).2.1 ≠ 0 then ((toksF l).2.1, noX)
  else
    let r := wholeF (toksF l).1 ((ps (toksF l).1 vwF (12 * (toksF l).1.length + 11)).E 0 0)
    if r.1 ≠ 0 then (r.1, noX) else if (xwF nameB vwF r.2.1 0 1).1 ≠ 0 then (4, noX) else (0, r.2.1)

/-- what Read asks of the world: tables, signs, a type's handle -/
structure RE (w : World) : Prop where
  lt : LT w
  sg : SG w
  sy : SY w
  tb : ∃ B, B ≤ w.heap.size ∧ TabsIn B w
  et : w.cell? ⟨1, 0, none⟩ = some (.iface 123 (.agg #[.pointer (some ⟨11, 66, none⟩)]))
theorem RE.keep {w w' : World} (h : RE w) (hb : Below w.heap.size w w') : RE w' := by
  obtain ⟨B, hB, ht⟩ := h.tb
  exact ⟨h.lt.on hb, h.sg.on hb, h.sy.on hb, ⟨B, Nat.le_trans hB hb.size, ht.below (hb.mono hB)⟩, (hb.cell (p := ⟨1, 0, none⟩) (low_of_cell h.et)).trans h.et⟩

/-- the environment that syn.Wrong asks -/
structure GdR (B : Nat) (w : World) : Prop where
  lt : ∀ W, Below B w W → LT W
  sg : ∀ W, Below B w W → SG W
  tb : TabsIn B w
theorem GdR.keep {B : Nat} {w w' : World} (h : GdR B w) (hb : Below B w w') : GdR B w' := ⟨fun W k => h.lt W (hb.trans k), fun W k => h.sg W (hb.trans k), h.tb.below hb⟩
theorem envR (B : Nat) : EnvX B (GdR B) nameB vwF where
  keep := fun _ _ h hb => h.keep hb
  named := fun s w _ _ hG => named_any s w (hG.lt w (Below.refl _ _)) (hG.sg w (Below.refl _ _))
  val := fun T v w hM hB hG => logicWrong_any T v B w hB hM hG.tb
theorem RE.gd {w : World} (h : RE w) : GdR w.heap.size w := by
  obtain ⟨B, hB, ht⟩ := h.tb
  exact ⟨fun W k => h.lt.on k, fun W k => h.sg.on k, ht.1, Nat.lt_of_lt_of_le ht.2.1 hB, Nat.lt_of_lt_of_le ht.2.2 hB⟩

/-- a reader in a block of four cells -/
theorem RD.make {w : World} {b g m c : Nat} {p : Option Addr} {l : List Tk} {e : Int} {t : TypeId} (hE : RE w) (hc : l.length ≤ c) (hp : 0 < l.length → p = some ⟨g, 0, none⟩) (hT : TKS w g l) (hm : MapF m sgnV w) (hl : l.length ≤ 4000) (htx : ∀ t ∈ l, t.t.length ≤ 4000) (hb : b = w.heap.size) :
    RD (w.alloc (.cells #[.slice p l.length c, .int .i64 e, .int .i64 0, .map (some m)] t)) b g m l e 0 0 := by
  subst hb
  have B := vbelow_new w (.cells #[.slice p l.length c, .int .i64 e, .int .i64 0, .map (some m)] t)
  have lg := hT.low
  have lm := hm.low
  obtain ⟨B0, hB0, htab⟩ := hE.tb
  refine ⟨⟨by simp, Nat.zero_le _, ⟨p, c, by simp [go_sem], fun q => by rw [hp q, Nat.zero_mul], by omega⟩, by simp [go_sem], by simp [go_sem]⟩, hT.keep B lg, by omega, by omega, by simp [go_sem], by simp [go_sem], by simp [go_sem], hm.keep B, hl, ⟨B0, hB0, htab.below (B.mono hB0)⟩, fun t ht => by have := htx t ht; omega⟩
end Go.Proofs.YthpjejfgoohhfaaGreatDoor

/- What Read tells of a text in brackets (plain). -/
namespace Go.Proofs.YthpjejfgoohhfaaGreatDoor
open Go.RowKit Go.MapKept

theorem read_br {B : List UInt8} (h : (readF B).1 = 0) (hl : B.length + 4 ≤ 4000) : readF (32 :: 40 :: (B ++ [41, 10])) = (0, (readF B).2) ∨ (readF (32 :: 40 :: (B ++ [41, 10]))).1 = 4 := by
  have ht : (toksF B).2.1 = 0 := by
    by_cases q : (toksF B).2.1 = 0
    · exact q
    · rw [readF, if_pos q] at h
      exact absurd h q
  have htb := Pp.toks_br ht hl
  obtain ⟨l, hlv⟩ : ∃ l, l = (toksF B).1 := ⟨_, rfl⟩
  obtain ⟨y, hy⟩ : ∃ y, y = (ps l vwF (12 * l.length + 11)).E 0 0 := ⟨_, rfl⟩
  have hB : readF B = if (wholeF l y).1 ≠ 0 then ((wholeF l y).1, noX) else if (xwF nameB vwF (wholeF l y).2.1 0 1).1 ≠ 0 then (4, noX) else (0, (wholeF l y).2.1) := by
    rw [readF, if_neg (fun c => c ht), ← hlv, ← hy]
  by_cases q1 : (wholeF l y).1 = 0
  · rw [if_neg (fun c => c q1)] at hB
    by_cases q2 : (xwF nameB vwF (wholeF l y).2.1 0 1).1 = 0
    · rw [if_neg (fun c => c q2)] at hB
      obtain ⟨l', hl'⟩ : ∃ l', l' = (⟨4, [40], 0, 0, 1⟩ : Tk) :: (l.map (Pp.shift 2) ++ [⟨4, [41], 0, 0, B.length + 2⟩]) := ⟨_, rfl⟩
      have hlen : l'.length = l.length + 2 := by rw [hl']; simp
      obtain ⟨yc, yx, yj⟩ := y
      have q3 : yc = 0 := by
        by_cases q : yc = 0
        · exact q
        · rw [wholeF, onOk_no q] at q1
          exact absurd q1 q
      subst q3
      have hw : wholeF l (0, yx, yj) = if yj < l.length then (2, noX, yj) else (0, yx, yj) := by rw [wholeF, onOk_yes]
      have q4 : ¬ yj < l.length := fun c => by rw [hw, if_pos c] at q1; exact absurd q1 (by decide : ¬ (2 : Int) = 0)
      rw [hw, if_neg q4] at q2 hB
      simp only at q2 hB
      have H : Lon l ((⟨4, [40], 0, 0, 1⟩ : Tk) :: (l ++ [(⟨4, [41], 0, 0, 0⟩ : Tk)])) ⟨4, [41], 0, 0, 0⟩ := by
        refine ⟨fun i hi => ?_, ?_, ⟨rfl, rfl⟩⟩
        · rw [List.getElem?_cons_succ, List.getElem?_append_left hi]
        · rw [List.getElem?_cons_succ, List.getElem?_append_right (Nat.le_refl _)]
          simp
      have hj : yj ≤ l.length := by
        have := (far H (12 * l.length + 11) (vw := vwF)).E (12 * l.length + 11) 0 0 (Nat.le_refl _) (Nat.zero_le _)
        rw [← hy] at this
        exact (this rfl).1
      obtain rfl : yj = l.length := by omega
      have hmap : (ps (l.map (Pp.shift 2)) vwF (12 * l.length + 11)).E 0 0 = (0, yx, (l.map (Pp.shift 2)).length) := by
        rw [Pp.ps_map, ← hy, List.length_map]
      have br := brackets (a := ⟨4, [40], 0, 0, 1⟩) (b := ⟨4, [41], 0, 0, B.length + 2⟩) ⟨rfl, rfl⟩ ⟨rfl, rfl⟩ hmap (M := 12 * l'.length + 11) (by omega)
      rw [← hl', List.length_map] at br
      have hR : readF (32 :: 40 :: (B ++ [41, 10])) = if (wholeF l' ((ps l' vwF (12 * l'.length + 11)).E 0 0)).1 ≠ 0 then ((wholeF l' ((ps l' vwF (12 * l'.length + 11)).E 0 0)).1, noX) else if (xwF nameB vwF (wholeF l' ((ps l' vwF (12 * l'.length + 11)).E 0 0)).2.1 0 1).1 ≠ 0 then (4, noX) else (0, (wholeF l' ((ps l' vwF (12 * l'.length + 11)).E 0 0)).2.1) := by
        rw [readF, htb, if_neg (by simp), hl', hlv]
      rcases br with e | e4
      · have hw2 : wholeF l' (0, yx, l.length + 2) = (0, yx, l.length + 2) := by rw [wholeF, onOk_yes, if_neg (by omega)]
        rw [e, hw2] at hR
        left
        rw [hR, hB, if_neg (by simp), if_neg (fun c => c q2)]
      · right
        have hw2 : (wholeF l' ((ps l' vwF (12 * l'.length + 11)).E 0 0)).1 = 4 := by
          rw [wholeF, onOk_no (by rw [e4]; decide)]
          exact e4
        rw [hR, hw2, if_pos (by decide)]
    · rw [hB, if_pos q2] at h
      exact absurd h (by decide : ¬ (4 : Int) = 0)
  · rw [hB, if_pos q1] at h
    exact absurd h q1
end Go.Proofs.YthpjejfgoohhfaaGreatDoor
