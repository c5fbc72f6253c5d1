/- What the law's walk carries: types in blocks. -/
import Derived.Test.YtjgonkcfnfgakaaGreatDoorA5
import Derived.Test.YtjgonkcfnfgakaaGreatDoorRG
namespace Go.Proofs.YtjgonkcfnfgakaaGreatDoor
open Go.RowKit

/-- a type in a block -/
structure TB (w : World) (p : Nat) (a : Sp) (k : Int) (s : Option Addr) (n c : Nat) : Prop where
  box : Bx2 w p (.int .i64 k) (.slice s n c)
  mem : MemT w.heap.size w (rt a) #[.int .i64 k, .slice s n c]
theorem TB.keep {w w' : World} {p : Nat} {a : Sp} {k : Int} {s : Option Addr} {n c : Nat} (h : TB w p a k s n c) (hb : Below w.heap.size w w') : TB w' p a k s n c :=
  ⟨h.box.keep hb h.box.low, h.mem.grow hb⟩
theorem TB.new {w : World} {a : Sp} {k : Int} {s : Option Addr} {n c : Nat} (h : MemT w.heap.size w (rt a) #[.int .i64 k, .slice s n c]) : TB (w.alloc (.cells #[.int .i64 k, .slice s n c] 24)) w.heap.size a k s n c :=
  ⟨Bx2.new w _ _ _, h.grow ((Below.refl _ _).alloc (Nat.le_refl _) _)⟩
theorem ok_bd {a : Sp} (h : a.ok) : a.n ≤ 60000 ∧ a.k ≠ 5 := by
  obtain ⟨h1, h2⟩ := h
  exact ⟨by omega, by omega⟩
theorem rtN_right : ∀ (n d : Nat) (k : Int), n + d ≤ 10 → (k = 1 ∨ k = 2 ∨ k = 3 ∨ k = 4 ∨ k = 6) → wrongTy d (rtN n k) = 0
  | 0, d, k, hd, hk => by
    rw [rtN, wrongTy_leaf, if_neg (by omega), if_neg (by omega), if_pos (by omega)]
  | n + 1, d, k, hd, hk => by
    rw [rtN, wrongTy_one, if_neg (by omega), if_neg (by omega), if_neg (by omega)]
    exact rtN_right n (d + 1) k (by omega) hk
theorem right_wrong {a : Sp} (h : a.ok) : wrongTy 1 (rt a) = 0 := rtN_right _ _ _ (by have := h.1; omega) h.2
section
variable {a b : Sp} {k1 k2 : Int} {s1 s2 : Option Addr} {n1 n2 c1 c2 : Nat} {w : World}
theorem wrong_ok (oa : a.ok) (ha : MemT w.heap.size w (rt a) #[.int .i64 k1, .slice s1 n1 c1]) : Calls Tryz.prog 7 #[.agg #[.int .i64 k1, .slice s1 n1 c1]] w fun e w' => e = .returned (.int .i64 0) ∧ Below w.heap.size w w' := by
  have h := tWrong_any (rt a) _ w ha
  rw [right_wrong oa] at h
  exact h
theorem fits_ok (oa : a.ok) (ob : b.ok) (ha : MemT w.heap.size w (rt a) #[.int .i64 k1, .slice s1 n1 c1]) (hb : MemT w.heap.size w (rt b) #[.int .i64 k2, .slice s2 n2 c2]) (r : Bool) (hr : decide (a.Fits b) = r) :
    Calls Tryz.prog 9 #[.agg #[.int .i64 k1, .slice s1 n1 c1], .agg #[.int .i64 k2, .slice s2 n2 c2]] w fun e w' => e = .returned (.bool r) ∧ Below w.heap.size w w' := by
  have h := tFits_any a b _ _ w (ok_bd oa).1 (ok_bd ob).1 (ok_bd oa).2 (ok_bd ob).2 ha hb
  unfold fit at h
  rw [hr] at h
  exact h
theorem same_ok (oa : a.ok) (ob : b.ok) (ha : MemT w.heap.size w (rt a) #[.int .i64 k1, .slice s1 n1 c1]) (hb : MemT w.heap.size w (rt b) #[.int .i64 k2, .slice s2 n2 c2]) (r : Bool) (hr : decide (a = b) = r) :
    Calls Tryz.prog 10 #[.agg #[.int .i64 k1, .slice s1 n1 c1], .agg #[.int .i64 k2, .slice s2 n2 c2]] w fun e w' => e = .returned (.bool r) ∧ Below w.heap.size w w' := by
  have h := same_any a b _ _ w (ok_bd oa).2 (ok_bd ob).2 ha hb
  rw [hr] at h
  exact h
theorem join_ok (oa : a.ok) (ob : b.ok) (ha : MemT w.heap.size w (rt a) #[.int .i64 k1, .slice s1 n1 c1]) (hb : MemT w.heap.size w (rt b) #[.int .i64 k2, .slice s2 n2 c2]) :
    Calls Tryz.prog 8 #[.agg #[.int .i64 k1, .slice s1 n1 c1], .agg #[.int .i64 k2, .slice s2 n2 c2]] w fun e w' => ∃ k s n c, e = .returned (.agg #[.int .i64 k, .slice s n c]) ∧ MemT w'.heap.size w' (rt (a.join b)) #[.int .i64 k, .slice s n c] ∧ Below w.heap.size w w' := by
  refine (tJoin_any a b _ _ w (ok_bd oa).1 (ok_bd ob).1 (ok_bd oa).2 (ok_bd ob).2 ha hb).mono ?_
  rintro e w' ⟨x, rfl, hx, hbl⟩
  obtain ⟨k, s, n, c, rfl⟩ := hx.form
  exact ⟨k, s, n, c, rfl, hx.low, hbl⟩
theorem fits_ev (oa : a.ok) (ob : b.ok) (ha : MemT w.heap.size w (rt a) #[.int .i64 k1, .slice s1 n1 c1]) (hb : MemT w.heap.size w (rt b) #[.int .i64 k2, .slice s2 n2 c2]) (r : Bool) (hr : decide (a.Fits b) = r) :
    Calls Tryz.prog 9 #[.agg #[.int .i64 k1, .slice s1 n1 c1], .agg #[.int .i64 k2, .slice s2 n2 c2]] w fun e w' => ∃ v, e = .returned v ∧ v = .bool r ∧ Below w.heap.size w w' := by
  refine (fits_ok oa ob ha hb r hr).mono ?_
  rintro e w' ⟨rfl, h⟩
  exact ⟨_, rfl, rfl, h⟩
theorem same_ev (oa : a.ok) (ob : b.ok) (ha : MemT w.heap.size w (rt a) #[.int .i64 k1, .slice s1 n1 c1]) (hb : MemT w.heap.size w (rt b) #[.int .i64 k2, .slice s2 n2 c2]) (r : Bool) (hr : decide (a = b) = r) :
    Calls Tryz.prog 10 #[.agg #[.int .i64 k1, .slice s1 n1 c1], .agg #[.int .i64 k2, .slice s2 n2 c2]] w fun e w' => ∃ v, e = .returned v ∧ v = .bool r ∧ Below w.heap.size w w' := by
  refine (same_ok oa ob ha hb r hr).mono ?_
  rintro e w' ⟨rfl, h⟩
  exact ⟨_, rfl, rfl, h⟩
end
/-- a type that was made -/
def MJ (j : Sp) (v : Value) (w : World) : Prop := ∃ k s n c, v = .agg #[.int .i64 k, .slice s n c] ∧ MemT w.heap.size w (rt j) #[.int .i64 k, .slice s n c]
theorem MJ.keep (j : Sp) (v : Value) (w w' : World) (hb : Below w.heap.size w w') (h : MJ j v w) : MJ j v w' := by
  obtain ⟨k, s, n, c, h1, h2⟩ := h
  exact ⟨k, s, n, c, h1, h2.grow hb⟩
abbrev dmj (j : Sp) : Ds := .mem (MJ j) (MJ.keep j)
section
variable {a b : Sp} {k1 k2 : Int} {s1 s2 : Option Addr} {n1 n2 c1 c2 : Nat} {w : World}
theorem join_ev (oa : a.ok) (ob : b.ok) (ha : MemT w.heap.size w (rt a) #[.int .i64 k1, .slice s1 n1 c1]) (hb : MemT w.heap.size w (rt b) #[.int .i64 k2, .slice s2 n2 c2]) :
    Calls Tryz.prog 8 #[.agg #[.int .i64 k1, .slice s1 n1 c1], .agg #[.int .i64 k2, .slice s2 n2 c2]] w fun e w' => ∃ v, e = .returned v ∧ MJ (a.join b) v w' ∧ Below w.heap.size w w' := by
  refine (join_ok oa ob ha hb).mono ?_
  rintro e w' ⟨k, s, n, c, rfl, hm, h⟩
  exact ⟨_, rfl, ⟨k, s, n, c, rfl, hm⟩, h⟩
end
theorem callFits (zs : Array Value) (w : World) : Sem.run Tryz.prog (callFunc 9 zs) w = .ok (.enter 9 zs) w := by simp [go_sem]
theorem callJoin (zs : Array Value) (w : World) : Sem.run Tryz.prog (callFunc 8 zs) w = .ok (.enter 8 zs) w := by simp [go_sem]
theorem callSame (zs : Array Value) (w : World) : Sem.run Tryz.prog (callFunc 10 zs) w = .ok (.enter 10 zs) w := by simp [go_sem]
theorem run_ldT {a : Act} {w : World} {d : Option Nat} {t : TypeId} {p : String} {af : Array Edge} {g : Option (Nat × Bool)} {s b : Nat} {u v : Value} (h : G a s = .pointer (some ⟨b, 0, none⟩)) (B : Bx2 w b u v) :
    (execOp a.eval ⟨d, .load 24 (.tmp s), t, p, af, g⟩).run Tryz.prog w = .ok (.value (.agg #[u, v])) w := by
  have c0 := B.at0
  have c1 := B.at1
  have e0 := eval_G h
  generalize a.eval = E at e0 ⊢
  simp [go_sem, e0, c0, c1]
end Go.Proofs.YtjgonkcfnfgakaaGreatDoor
