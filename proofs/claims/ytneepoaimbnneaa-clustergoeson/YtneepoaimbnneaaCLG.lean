/- Walks: happen (cluster): whatever happens. -/
import Derived.Test.YtneepoaimbnneaaCGG
import Derived.Test.YtneepoaimbnneaaCJG
namespace Go.Proofs.Ytneepoaimbnneaa.CL
open Go.RowKit
variable {A : Nat → Prop}

theorem deed_equal (d f : Nat) (a b : Array Value) (w : World) : (Op.equalIn (d + 1) 58 (Value.func (Fn.func f) a b) Value.nilFunc).run Try.prog w = .ok false w := by
  simp [Op.equalIn, run_underlying Try.underlying58]
theorem deed_nil_equal (d : Nat) (w : World) : (Op.equalIn (d + 1) 58 Value.nilFunc Value.nilFunc).run Try.prog w = .ok true w := by
  simp [Op.equalIn, run_underlying Try.underlying58]
theorem deed_neq (f : Nat) (a b : Array Value) (w : World) : (binOp BinOp.neq 58 (Value.func (Fn.func f) a b) Value.nilFunc).run Try.prog w = .ok (.bool true) w := by
  simp only [binOp, Op.equal, Op.maxDepth, Sem.run_bind, deed_equal, Result.andThen_ok, Sem.run_pure, Bool.not_false]
theorem deed_nil (w : World) : (binOp BinOp.neq 58 Value.nilFunc Value.nilFunc).run Try.prog w = .ok (.bool false) w := by
  simp only [binOp, Op.equal, Op.maxDepth, Sem.run_bind, deed_nil_equal, Result.andThen_ok, Sem.run_pure, Bool.not_true]

end Go.Proofs.Ytneepoaimbnneaa.CL

namespace Go.Proofs.Ytneepoaimbnneaa.CL
open Go.RowKit
variable {A : Nat → Prop}

set_option maxHeartbeats 4000000 in
set_option maxRecDepth 100000 in
theorem happen_timeout {Fit : Rf.Node → Prop} {FitM : Rf.Msg → Prop} (R : RC Fit FitM) (k : Nat) (pick : Int) (x : Rf.Node) (B p : Nat) (W : Rf.Wd) (nv tv : Value) (nc tc : List Value) (w : World) (h : CW A B w p W nv tv nc tc) (hx : W.nodes[k]? = some x) (fx : Fit x) (hN : W.nodes.length ≤ 900) (hT : W.net.length ≤ 900) :
    Calls Try.prog 12 #[.pointer (some ⟨p, 0, none⟩), .agg #[.int .i64 1, .int .i64 ((k : Int) + 1), .int .i64 pick]] w (PC A B p nv tv w { nodes := W.nodes.set k (Rf.timeout x).1, net := Rf.trim (W.net ++ (Rf.timeout x).2) }) := by
  obtain ⟨U, hU⟩ : ∃ U, U = w.alloc (.cells #[.int .i64 1, .int .i64 ((k : Int) + 1), .int .i64 pick] 38) := ⟨_, rfl⟩
  have hbU : Below w.heap.size w U := by rw [hU]; exact below_new _ _
  have E0 : BK U w.heap.size 38 #[.int .i64 1, .int .i64 ((k : Int) + 1), .int .i64 pick] := by rw [hU]; exact BK.new _ _ _
  have fe0 : Fp A U p nv tv w.heap.size := Fp.new h (Nat.le_refl _) E0.low
  have hu := h.below hbU
  have hszB := hide h.szB
  have e0 : U.cell? ⟨w.heap.size, 0, none⟩ = some (.int .i64 1) := E0.at rfl
  have e1 : U.cell? ⟨w.heap.size, 1, none⟩ = some (.int .i64 ((k : Int) + 1)) := E0.at rfl
  have e2 : U.cell? ⟨w.heap.size, 2, none⟩ = some (.int .i64 pick) := E0.at rfl
  have CDo := hide (deedOf_timeout ((k : Int) + 1) pick U)
  have eb := ev_below U 1 ((k : Int) + 1) pick
  have H2 := hide (hu.below eb)
  have E2 := hide (E0.keep eb)
  have X2 : Hid (BK (evW U 1 ((k : Int) + 1) pick) U.heap.size 38 #[.int .i64 1, .int .i64 ((k : Int) + 1), .int .i64 pick]) := hide (ev_bk U 1 ((k : Int) + 1) pick)
  have FE := hide (Frm.below eb _ fe0).1
  have B2 := hide (below_via hbU eb)
  have R2 : Hid (Frm A p w nv tv (evW U 1 ((k : Int) + 1) pick) nv tv) := hide (Frm.below (unhide B2))
  clear hu hbU E0 eb fe0 h
  go_enter Try.func12, Try.ntmps12
  go_upto_region 1 with fail
  rw [← hU]
  clear hU
  go_wp2_with fail
  refine (unhide CDo).mono ?_
  rintro e w1 ⟨rfl, ew⟩
  rw [← ew] at H2 E2 X2 FE B2 R2
  clear e0 e1 e2 CDo ew
  generalize U.heap.size = bx at X2 ⊢
  have e0 : w1.cell? ⟨w.heap.size, 0, none⟩ = some (.int .i64 1) := (unhide E2).at rfl
  have e1 : w1.cell? ⟨w.heap.size, 1, none⟩ = some (.int .i64 ((k : Int) + 1)) := (unhide E2).at rfl
  have e2 : w1.cell? ⟨w.heap.size, 2, none⟩ = some (.int .i64 pick) := (unhide E2).at rfl
  have hdn := deed_neq 27 #[] #[]
  obtain ⟨na, NL, ncap, -, -, -, -, -, hNL, -, -, -, -, q0, -, -, -⟩ := (unhide H2).tell
  have hk : k < W.nodes.length := (List.getElem?_eq_some_iff.1 hx).1
  have CN := hide (hasNode_any p NL ncap na ((k : Int) + 1) w1 q0)
  have dk : decide (1 ≤ (k : Int) + 1 ∧ (k : Int) + 1 ≤ (NL : Int)) = true := decide_eq_true ⟨by omega, by have e : NL = W.nodes.length := unhide hNL; omega⟩
  rw [dk] at CN
  clear dk
  have hyl : Hid ((Rf.timeout x).2.length ≤ 10) := hide (Rf.timeout_len x)
  have CA := hide (act_timeout (Rf.timeout x) B p k x W nv tv _ _ w1 (unhide H2) hx (by omega) (by omega) (by have := unhide hyl; omega) (fun v hv => R.timeout _ x v w1 hv (fun b hb => hb.1) fx))
  have HT := hide hT
  go_wp2_with (go_at_call 19; refine (unhide CN).mono ?_; rintro e w9 ⟨rfl, rfl⟩)
  go_wp2_with fail
  refine (unhide CA).mono ?_
  rintro e w3 ⟨rfl, nv3, tv3, nc3, tc3, h3, b3, r3⟩
  have CFo := hide (forget_any B p _ nv3 tv3 nc3 tc3 w3 h3 (by have := unhide hyl; have := unhide HT; simp only [List.length_append]; omega))
  have FE3 := hide (r3 _ (unhide FE)).1
  have E3 := hide ((r3 _ (unhide FE)).2.trans (unhide E2))
  have B3 := hide (((unhide B2).mono (unhide hszB)).trans b3)
  have R3 := hide ((unhide R2).trans r3)
  clear e0 e1 e2 q0 CN CA h3 b3 r3 H2 E2 X2 FE B2 R2
  go_wp2_with fail
  refine (unhide CFo).mono ?_
  rintro e w4 ⟨rfl, nv4, tv4, nc4, tc4, h4, b4, r4⟩
  have e0 : w4.cell? ⟨w.heap.size, 0, none⟩ = some (.int .i64 1) := BK.at ((r4 _ (unhide FE3)).2.trans (unhide E3)) rfl
  have HF := hide (And.intro h4 (And.intro ((unhide B3).trans b4) ((unhide R3).trans r4)))
  have CO := hide (ofMessage_any 1 w4)
  rw [show decide ((1 : Int) = 4 ∨ (1 : Int) = 5 ∨ (1 : Int) = 6) = false from rfl] at CO
  clear h4 b4 r4 CFo E3 FE3 B3 R3
  go_wp2_with (go_at_call 22; refine (unhide CO).mono ?_; rintro e w9 ⟨rfl, rfl⟩)
  go_wp2
  go_end0
  exact ⟨rfl, nv4, tv4, nc4, tc4, (unhide HF).1, (unhide HF).2.1, (unhide HF).2.2⟩

end Go.Proofs.Ytneepoaimbnneaa.CL

namespace Go.Proofs.Ytneepoaimbnneaa.CL
open Go.RowKit
variable {A : Nat → Prop}

set_option maxHeartbeats 4000000 in
set_option maxRecDepth 100000 in
theorem happen_beat {Fit : Rf.Node → Prop} {FitM : Rf.Msg → Prop} (R : RC Fit FitM) (k : Nat) (pick : Int) (x : Rf.Node) (B p : Nat) (W : Rf.Wd) (nv tv : Value) (nc tc : List Value) (w : World) (h : CW A B w p W nv tv nc tc) (hx : W.nodes[k]? = some x) (fx : Fit x) (hN : W.nodes.length ≤ 900) (hT : W.net.length ≤ 900) :
    Calls Try.prog 12 #[.pointer (some ⟨p, 0, none⟩), .agg #[.int .i64 2, .int .i64 ((k : Int) + 1), .int .i64 pick]] w (PC A B p nv tv w { nodes := W.nodes.set k (Rf.beat x).1, net := Rf.trim (W.net ++ (Rf.beat x).2) }) := by
  obtain ⟨U, hU⟩ : ∃ U, U = w.alloc (.cells #[.int .i64 2, .int .i64 ((k : Int) + 1), .int .i64 pick] 38) := ⟨_, rfl⟩
  have hbU : Below w.heap.size w U := by rw [hU]; exact below_new _ _
  have E0 : BK U w.heap.size 38 #[.int .i64 2, .int .i64 ((k : Int) + 1), .int .i64 pick] := by rw [hU]; exact BK.new _ _ _
  have fe0 : Fp A U p nv tv w.heap.size := Fp.new h (Nat.le_refl _) E0.low
  have hu := h.below hbU
  have hszB := hide h.szB
  have e0 : U.cell? ⟨w.heap.size, 0, none⟩ = some (.int .i64 2) := E0.at rfl
  have e1 : U.cell? ⟨w.heap.size, 1, none⟩ = some (.int .i64 ((k : Int) + 1)) := E0.at rfl
  have e2 : U.cell? ⟨w.heap.size, 2, none⟩ = some (.int .i64 pick) := E0.at rfl
  have CDo := hide (deedOf_beat ((k : Int) + 1) pick U)
  have eb := ev_below U 2 ((k : Int) + 1) pick
  have H2 := hide (hu.below eb)
  have E2 := hide (E0.keep eb)
  have X2 : Hid (BK (evW U 2 ((k : Int) + 1) pick) U.heap.size 38 #[.int .i64 2, .int .i64 ((k : Int) + 1), .int .i64 pick]) := hide (ev_bk U 2 ((k : Int) + 1) pick)
  have FE := hide (Frm.below eb _ fe0).1
  have B2 := hide (below_via hbU eb)
  have R2 : Hid (Frm A p w nv tv (evW U 2 ((k : Int) + 1) pick) nv tv) := hide (Frm.below (unhide B2))
  clear hu hbU E0 eb fe0 h
  go_enter Try.func12, Try.ntmps12
  go_upto_region 1 with fail
  rw [← hU]
  clear hU
  go_wp2_with fail
  refine (unhide CDo).mono ?_
  rintro e w1 ⟨rfl, ew⟩
  rw [← ew] at H2 E2 X2 FE B2 R2
  clear e0 e1 e2 CDo ew
  generalize U.heap.size = bx at X2 ⊢
  have e0 : w1.cell? ⟨w.heap.size, 0, none⟩ = some (.int .i64 2) := (unhide E2).at rfl
  have e1 : w1.cell? ⟨w.heap.size, 1, none⟩ = some (.int .i64 ((k : Int) + 1)) := (unhide E2).at rfl
  have e2 : w1.cell? ⟨w.heap.size, 2, none⟩ = some (.int .i64 pick) := (unhide E2).at rfl
  have hdn := deed_neq 28 #[] #[]
  obtain ⟨na, NL, ncap, -, -, -, -, -, hNL, -, -, -, -, q0, -, -, -⟩ := (unhide H2).tell
  have hk : k < W.nodes.length := (List.getElem?_eq_some_iff.1 hx).1
  have CN := hide (hasNode_any p NL ncap na ((k : Int) + 1) w1 q0)
  have dk : decide (1 ≤ (k : Int) + 1 ∧ (k : Int) + 1 ≤ (NL : Int)) = true := decide_eq_true ⟨by omega, by have e : NL = W.nodes.length := unhide hNL; omega⟩
  rw [dk] at CN
  clear dk
  have hyl : Hid ((Rf.beat x).2.length ≤ 10) := hide (Rf.beat_len x)
  have CA := hide (act_beat (Rf.beat x) B p k x W nv tv _ _ w1 (unhide H2) hx (by omega) (by omega) (by have := unhide hyl; omega) (fun v hv => R.beat _ x v w1 hv (fun b hb => hb.1) fx))
  have HT := hide hT
  go_wp2_with (go_at_call 19; refine (unhide CN).mono ?_; rintro e w9 ⟨rfl, rfl⟩)
  go_wp2_with fail
  refine (unhide CA).mono ?_
  rintro e w3 ⟨rfl, nv3, tv3, nc3, tc3, h3, b3, r3⟩
  have CFo := hide (forget_any B p _ nv3 tv3 nc3 tc3 w3 h3 (by have := unhide hyl; have := unhide HT; simp only [List.length_append]; omega))
  have FE3 := hide (r3 _ (unhide FE)).1
  have E3 := hide ((r3 _ (unhide FE)).2.trans (unhide E2))
  have B3 := hide (((unhide B2).mono (unhide hszB)).trans b3)
  have R3 := hide ((unhide R2).trans r3)
  clear e0 e1 e2 q0 CN CA h3 b3 r3 H2 E2 X2 FE B2 R2
  go_wp2_with fail
  refine (unhide CFo).mono ?_
  rintro e w4 ⟨rfl, nv4, tv4, nc4, tc4, h4, b4, r4⟩
  have e0 : w4.cell? ⟨w.heap.size, 0, none⟩ = some (.int .i64 2) := BK.at ((r4 _ (unhide FE3)).2.trans (unhide E3)) rfl
  have HF := hide (And.intro h4 (And.intro ((unhide B3).trans b4) ((unhide R3).trans r4)))
  have CO := hide (ofMessage_any 2 w4)
  rw [show decide ((2 : Int) = 4 ∨ (2 : Int) = 5 ∨ (2 : Int) = 6) = false from rfl] at CO
  clear h4 b4 r4 CFo E3 FE3 B3 R3
  go_wp2_with (go_at_call 22; refine (unhide CO).mono ?_; rintro e w9 ⟨rfl, rfl⟩)
  go_wp2
  go_end0
  exact ⟨rfl, nv4, tv4, nc4, tc4, (unhide HF).1, (unhide HF).2.1, (unhide HF).2.2⟩

end Go.Proofs.Ytneepoaimbnneaa.CL

namespace Go.Proofs.Ytneepoaimbnneaa.CL
open Go.RowKit
variable {A : Nat → Prop}

set_option maxHeartbeats 4000000 in
set_option maxRecDepth 100000 in
theorem happen_prop {Fit : Rf.Node → Prop} {FitM : Rf.Msg → Prop} (R : RC Fit FitM) (k : Nat) (pick : Int) (x : Rf.Node) (B p : Nat) (W : Rf.Wd) (nv tv : Value) (nc tc : List Value) (w : World) (h : CW A B w p W nv tv nc tc) (hx : W.nodes[k]? = some x) (fx : Fit x) (hN : W.nodes.length ≤ 900) (hT : W.net.length ≤ 900) :
    Calls Try.prog 12 #[.pointer (some ⟨p, 0, none⟩), .agg #[.int .i64 3, .int .i64 ((k : Int) + 1), .int .i64 pick]] w (PC A B p nv tv w { nodes := W.nodes.set k ((Rf.propose x pick).1, (Rf.propose x pick).2.1).1, net := Rf.trim (W.net ++ ((Rf.propose x pick).1, (Rf.propose x pick).2.1).2) }) := by
  obtain ⟨U, hU⟩ : ∃ U, U = w.alloc (.cells #[.int .i64 3, .int .i64 ((k : Int) + 1), .int .i64 pick] 38) := ⟨_, rfl⟩
  have hbU : Below w.heap.size w U := by rw [hU]; exact below_new _ _
  have E0 : BK U w.heap.size 38 #[.int .i64 3, .int .i64 ((k : Int) + 1), .int .i64 pick] := by rw [hU]; exact BK.new _ _ _
  have fe0 : Fp A U p nv tv w.heap.size := Fp.new h (Nat.le_refl _) E0.low
  have hu := h.below hbU
  have hszB := hide h.szB
  have e0 : U.cell? ⟨w.heap.size, 0, none⟩ = some (.int .i64 3) := E0.at rfl
  have e1 : U.cell? ⟨w.heap.size, 1, none⟩ = some (.int .i64 ((k : Int) + 1)) := E0.at rfl
  have e2 : U.cell? ⟨w.heap.size, 2, none⟩ = some (.int .i64 pick) := E0.at rfl
  have CDo := hide (deedOf_prop ((k : Int) + 1) pick U)
  have eb := ev_below U 3 ((k : Int) + 1) pick
  have H2 := hide (hu.below eb)
  have E2 := hide (E0.keep eb)
  have X2 : Hid (BK (evW U 3 ((k : Int) + 1) pick) U.heap.size 38 #[.int .i64 3, .int .i64 ((k : Int) + 1), .int .i64 pick]) := hide (ev_bk U 3 ((k : Int) + 1) pick)
  have FE := hide (Frm.below eb _ fe0).1
  have B2 := hide (below_via hbU eb)
  have R2 : Hid (Frm A p w nv tv (evW U 3 ((k : Int) + 1) pick) nv tv) := hide (Frm.below (unhide B2))
  clear hu hbU E0 eb fe0 h
  go_enter Try.func12, Try.ntmps12
  go_upto_region 1 with fail
  rw [← hU]
  clear hU
  go_wp2_with fail
  refine (unhide CDo).mono ?_
  rintro e w1 ⟨rfl, ew⟩
  rw [← ew] at H2 E2 X2 FE B2 R2
  clear e0 e1 e2 CDo ew
  generalize U.heap.size = bx at X2 ⊢
  have e0 : w1.cell? ⟨w.heap.size, 0, none⟩ = some (.int .i64 3) := (unhide E2).at rfl
  have e1 : w1.cell? ⟨w.heap.size, 1, none⟩ = some (.int .i64 ((k : Int) + 1)) := (unhide E2).at rfl
  have e2 : w1.cell? ⟨w.heap.size, 2, none⟩ = some (.int .i64 pick) := (unhide E2).at rfl
  have hdn := deed_neq 29 #[] #[.pointer (some ⟨bx, 0, none⟩)]
  obtain ⟨na, NL, ncap, -, -, -, -, -, hNL, -, -, -, -, q0, -, -, -⟩ := (unhide H2).tell
  have hk : k < W.nodes.length := (List.getElem?_eq_some_iff.1 hx).1
  have CN := hide (hasNode_any p NL ncap na ((k : Int) + 1) w1 q0)
  have dk : decide (1 ≤ (k : Int) + 1 ∧ (k : Int) + 1 ≤ (NL : Int)) = true := decide_eq_true ⟨by omega, by have e : NL = W.nodes.length := unhide hNL; omega⟩
  rw [dk] at CN
  clear dk
  have hyl : Hid (((Rf.propose x pick).1, (Rf.propose x pick).2.1).2.length ≤ 10) := hide (Rf.propose_len x pick)
  have CA := hide (act_prop ((Rf.propose x pick).1, (Rf.propose x pick).2.1) B p k bx x W nv tv _ _ w1 (unhide H2) hx (by omega) (by omega) (by have := unhide hyl; omega) (fun v hv => prop_any _ x (Rf.propose x pick) v bx _ _ pick w1 hv (fun b hb => hb.1) (unhide X2) (fun w0 hv0 hP0 => R.propose _ x v pick w0 hv0 hP0 fx)))
  have HT := hide hT
  go_wp2_with (go_at_call 19; refine (unhide CN).mono ?_; rintro e w9 ⟨rfl, rfl⟩)
  go_wp2_with fail
  refine (unhide CA).mono ?_
  rintro e w3 ⟨rfl, nv3, tv3, nc3, tc3, h3, b3, r3⟩
  have CFo := hide (forget_any B p _ nv3 tv3 nc3 tc3 w3 h3 (by have := unhide hyl; have := unhide HT; simp only [List.length_append]; omega))
  have FE3 := hide (r3 _ (unhide FE)).1
  have E3 := hide ((r3 _ (unhide FE)).2.trans (unhide E2))
  have B3 := hide (((unhide B2).mono (unhide hszB)).trans b3)
  have R3 := hide ((unhide R2).trans r3)
  clear e0 e1 e2 q0 CN CA h3 b3 r3 H2 E2 X2 FE B2 R2
  go_wp2_with fail
  refine (unhide CFo).mono ?_
  rintro e w4 ⟨rfl, nv4, tv4, nc4, tc4, h4, b4, r4⟩
  have e0 : w4.cell? ⟨w.heap.size, 0, none⟩ = some (.int .i64 3) := BK.at ((r4 _ (unhide FE3)).2.trans (unhide E3)) rfl
  have HF := hide (And.intro h4 (And.intro ((unhide B3).trans b4) ((unhide R3).trans r4)))
  have CO := hide (ofMessage_any 3 w4)
  rw [show decide ((3 : Int) = 4 ∨ (3 : Int) = 5 ∨ (3 : Int) = 6) = false from rfl] at CO
  clear h4 b4 r4 CFo E3 FE3 B3 R3
  go_wp2_with (go_at_call 22; refine (unhide CO).mono ?_; rintro e w9 ⟨rfl, rfl⟩)
  go_wp2
  go_end0
  exact ⟨rfl, nv4, tv4, nc4, tc4, (unhide HF).1, (unhide HF).2.1, (unhide HF).2.2⟩

end Go.Proofs.Ytneepoaimbnneaa.CL

namespace Go.Proofs.Ytneepoaimbnneaa.CL
open Go.RowKit
variable {A : Nat → Prop}

set_option maxHeartbeats 4000000 in
set_option maxRecDepth 100000 in
theorem happen_rest {Fit : Rf.Node → Prop} {FitM : Rf.Msg → Prop} (R : RC Fit FitM) (k : Nat) (pick : Int) (x : Rf.Node) (B p : Nat) (W : Rf.Wd) (nv tv : Value) (nc tc : List Value) (w : World) (h : CW A B w p W nv tv nc tc) (hx : W.nodes[k]? = some x) (fx : Fit x) (hN : W.nodes.length ≤ 900) (hT : W.net.length ≤ 900) :
    Calls Try.prog 12 #[.pointer (some ⟨p, 0, none⟩), .agg #[.int .i64 7, .int .i64 ((k : Int) + 1), .int .i64 pick]] w (PC A B p nv tv w { nodes := W.nodes.set k ((Rf.restart x, []) : Rf.Node × List Rf.Msg).1, net := Rf.trim (W.net ++ ((Rf.restart x, []) : Rf.Node × List Rf.Msg).2) }) := by
  obtain ⟨U, hU⟩ : ∃ U, U = w.alloc (.cells #[.int .i64 7, .int .i64 ((k : Int) + 1), .int .i64 pick] 38) := ⟨_, rfl⟩
  have hbU : Below w.heap.size w U := by rw [hU]; exact below_new _ _
  have E0 : BK U w.heap.size 38 #[.int .i64 7, .int .i64 ((k : Int) + 1), .int .i64 pick] := by rw [hU]; exact BK.new _ _ _
  have fe0 : Fp A U p nv tv w.heap.size := Fp.new h (Nat.le_refl _) E0.low
  have hu := h.below hbU
  have hszB := hide h.szB
  have e0 : U.cell? ⟨w.heap.size, 0, none⟩ = some (.int .i64 7) := E0.at rfl
  have e1 : U.cell? ⟨w.heap.size, 1, none⟩ = some (.int .i64 ((k : Int) + 1)) := E0.at rfl
  have e2 : U.cell? ⟨w.heap.size, 2, none⟩ = some (.int .i64 pick) := E0.at rfl
  have CDo := hide (deedOf_rest ((k : Int) + 1) pick U)
  have eb := ev_below U 7 ((k : Int) + 1) pick
  have H2 := hide (hu.below eb)
  have E2 := hide (E0.keep eb)
  have X2 : Hid (BK (evW U 7 ((k : Int) + 1) pick) U.heap.size 38 #[.int .i64 7, .int .i64 ((k : Int) + 1), .int .i64 pick]) := hide (ev_bk U 7 ((k : Int) + 1) pick)
  have FE := hide (Frm.below eb _ fe0).1
  have B2 := hide (below_via hbU eb)
  have R2 : Hid (Frm A p w nv tv (evW U 7 ((k : Int) + 1) pick) nv tv) := hide (Frm.below (unhide B2))
  clear hu hbU E0 eb fe0 h
  go_enter Try.func12, Try.ntmps12
  go_upto_region 1 with fail
  rw [← hU]
  clear hU
  go_wp2_with fail
  refine (unhide CDo).mono ?_
  rintro e w1 ⟨rfl, ew⟩
  rw [← ew] at H2 E2 X2 FE B2 R2
  clear e0 e1 e2 CDo ew
  generalize U.heap.size = bx at X2 ⊢
  have e0 : w1.cell? ⟨w.heap.size, 0, none⟩ = some (.int .i64 7) := (unhide E2).at rfl
  have e1 : w1.cell? ⟨w.heap.size, 1, none⟩ = some (.int .i64 ((k : Int) + 1)) := (unhide E2).at rfl
  have e2 : w1.cell? ⟨w.heap.size, 2, none⟩ = some (.int .i64 pick) := (unhide E2).at rfl
  have hdn := deed_neq 31 #[] #[]
  obtain ⟨na, NL, ncap, -, -, -, -, -, hNL, -, -, -, -, q0, -, -, -⟩ := (unhide H2).tell
  have hk : k < W.nodes.length := (List.getElem?_eq_some_iff.1 hx).1
  have CN := hide (hasNode_any p NL ncap na ((k : Int) + 1) w1 q0)
  have dk : decide (1 ≤ (k : Int) + 1 ∧ (k : Int) + 1 ≤ (NL : Int)) = true := decide_eq_true ⟨by omega, by have e : NL = W.nodes.length := unhide hNL; omega⟩
  rw [dk] at CN
  clear dk
  have hyl : Hid (((Rf.restart x, []) : Rf.Node × List Rf.Msg).2.length ≤ 10) := hide (by simp)
  have CA := hide (act_rest ((Rf.restart x, []) : Rf.Node × List Rf.Msg) B p k x W nv tv _ _ w1 (unhide H2) hx (by omega) (by omega) (by have := unhide hyl; omega) (fun v hv => rest_any _ x (Rf.restart x) v w1 hv (fun b hb => hb.1) (fun w0 hv0 hP0 => R.restart _ x v w0 hv0 hP0 fx)))
  have HT := hide hT
  go_wp2_with (go_at_call 19; refine (unhide CN).mono ?_; rintro e w9 ⟨rfl, rfl⟩)
  go_wp2_with fail
  refine (unhide CA).mono ?_
  rintro e w3 ⟨rfl, nv3, tv3, nc3, tc3, h3, b3, r3⟩
  have CFo := hide (forget_any B p _ nv3 tv3 nc3 tc3 w3 h3 (by have := unhide hyl; have := unhide HT; simp only [List.length_append]; omega))
  have FE3 := hide (r3 _ (unhide FE)).1
  have E3 := hide ((r3 _ (unhide FE)).2.trans (unhide E2))
  have B3 := hide (((unhide B2).mono (unhide hszB)).trans b3)
  have R3 := hide ((unhide R2).trans r3)
  clear e0 e1 e2 q0 CN CA h3 b3 r3 H2 E2 X2 FE B2 R2
  go_wp2_with fail
  refine (unhide CFo).mono ?_
  rintro e w4 ⟨rfl, nv4, tv4, nc4, tc4, h4, b4, r4⟩
  have e0 : w4.cell? ⟨w.heap.size, 0, none⟩ = some (.int .i64 7) := BK.at ((r4 _ (unhide FE3)).2.trans (unhide E3)) rfl
  have HF := hide (And.intro h4 (And.intro ((unhide B3).trans b4) ((unhide R3).trans r4)))
  have CO := hide (ofMessage_any 7 w4)
  rw [show decide ((7 : Int) = 4 ∨ (7 : Int) = 5 ∨ (7 : Int) = 6) = false from rfl] at CO
  clear h4 b4 r4 CFo E3 FE3 B3 R3
  go_wp2_with (go_at_call 22; refine (unhide CO).mono ?_; rintro e w9 ⟨rfl, rfl⟩)
  go_wp2
  go_end0
  exact ⟨rfl, nv4, tv4, nc4, tc4, (unhide HF).1, (unhide HF).2.1, (unhide HF).2.2⟩

end Go.Proofs.Ytneepoaimbnneaa.CL

namespace Go.Proofs.Ytneepoaimbnneaa.CL
open Go.RowKit
variable {A : Nat → Prop}

set_option maxHeartbeats 4000000 in
set_option maxRecDepth 100000 in
theorem happen_timeout_no (node pick : Int) (B p : Nat) (W : Rf.Wd) (nv tv : Value) (nc tc : List Value) (w : World) (h : CW A B w p W nv tv nc tc) (hno : decide (1 ≤ node ∧ node ≤ (W.nodes.length : Int)) = false) :
    Calls Try.prog 12 #[.pointer (some ⟨p, 0, none⟩), .agg #[.int .i64 1, .int .i64 node, .int .i64 pick]] w (PC A B p nv tv w W) := by
  obtain ⟨U, hU⟩ : ∃ U, U = w.alloc (.cells #[.int .i64 1, .int .i64 node, .int .i64 pick] 38) := ⟨_, rfl⟩
  have hbU : Below w.heap.size w U := by rw [hU]; exact below_new _ _
  have E0 : BK U w.heap.size 38 #[.int .i64 1, .int .i64 node, .int .i64 pick] := by rw [hU]; exact BK.new _ _ _
  have fe0 : Fp A U p nv tv w.heap.size := Fp.new h (Nat.le_refl _) E0.low
  have hu := h.below hbU
  have hszB := hide h.szB
  have e0 : U.cell? ⟨w.heap.size, 0, none⟩ = some (.int .i64 1) := E0.at rfl
  have e1 : U.cell? ⟨w.heap.size, 1, none⟩ = some (.int .i64 node) := E0.at rfl
  have e2 : U.cell? ⟨w.heap.size, 2, none⟩ = some (.int .i64 pick) := E0.at rfl
  have CDo := hide (deedOf_timeout node pick U)
  have eb := ev_below U 1 node pick
  have H2 := hide (hu.below eb)
  have E2 := hide (E0.keep eb)
  have X2 : Hid (BK (evW U 1 node pick) U.heap.size 38 #[.int .i64 1, .int .i64 node, .int .i64 pick]) := hide (ev_bk U 1 node pick)
  have FE := hide (Frm.below eb _ fe0).1
  have B2 := hide (below_via hbU eb)
  have R2 : Hid (Frm A p w nv tv (evW U 1 node pick) nv tv) := hide (Frm.below (unhide B2))
  clear hu hbU E0 eb fe0 h
  go_enter Try.func12, Try.ntmps12
  go_upto_region 1 with fail
  rw [← hU]
  clear hU
  go_wp2_with fail
  refine (unhide CDo).mono ?_
  rintro e w1 ⟨rfl, ew⟩
  rw [← ew] at H2 E2 X2 FE B2 R2
  clear e0 e1 e2 CDo ew
  generalize U.heap.size = bx at X2 ⊢
  have e0 : w1.cell? ⟨w.heap.size, 0, none⟩ = some (.int .i64 1) := (unhide E2).at rfl
  have e1 : w1.cell? ⟨w.heap.size, 1, none⟩ = some (.int .i64 node) := (unhide E2).at rfl
  have e2 : w1.cell? ⟨w.heap.size, 2, none⟩ = some (.int .i64 pick) := (unhide E2).at rfl
  have hdn := deed_neq 27 #[] #[]
  obtain ⟨na, NL, ncap, -, -, -, -, -, hNL, -, -, -, -, q0, -, -, -⟩ := (unhide H2).tell
  have CN := hide (hasNode_any p NL ncap na node w1 q0)
  have dk : decide (1 ≤ node ∧ node ≤ (NL : Int)) = false := by have e : NL = W.nodes.length := unhide hNL; rw [e]; exact hno
  rw [dk] at CN
  clear dk hno
  have CO := hide (ofMessage_any 1 w1)
  rw [show decide ((1 : Int) = 4 ∨ (1 : Int) = 5 ∨ (1 : Int) = 6) = false from rfl] at CO
  go_wp2_with (first
    | (go_at_call 19; refine (unhide CN).mono ?_; rintro e w9 ⟨rfl, rfl⟩)
    | (go_at_call 22; refine (unhide CO).mono ?_; rintro e w9 ⟨rfl, rfl⟩))
  go_wp2
  go_end0
  exact ⟨rfl, _, _, _, _, unhide H2, (unhide B2).mono (unhide hszB), unhide R2⟩

end Go.Proofs.Ytneepoaimbnneaa.CL

namespace Go.Proofs.Ytneepoaimbnneaa.CL
open Go.RowKit
variable {A : Nat → Prop}

set_option maxHeartbeats 4000000 in
set_option maxRecDepth 100000 in
theorem happen_beat_no (node pick : Int) (B p : Nat) (W : Rf.Wd) (nv tv : Value) (nc tc : List Value) (w : World) (h : CW A B w p W nv tv nc tc) (hno : decide (1 ≤ node ∧ node ≤ (W.nodes.length : Int)) = false) :
    Calls Try.prog 12 #[.pointer (some ⟨p, 0, none⟩), .agg #[.int .i64 2, .int .i64 node, .int .i64 pick]] w (PC A B p nv tv w W) := by
  obtain ⟨U, hU⟩ : ∃ U, U = w.alloc (.cells #[.int .i64 2, .int .i64 node, .int .i64 pick] 38) := ⟨_, rfl⟩
  have hbU : Below w.heap.size w U := by rw [hU]; exact below_new _ _
  have E0 : BK U w.heap.size 38 #[.int .i64 2, .int .i64 node, .int .i64 pick] := by rw [hU]; exact BK.new _ _ _
  have fe0 : Fp A U p nv tv w.heap.size := Fp.new h (Nat.le_refl _) E0.low
  have hu := h.below hbU
  have hszB := hide h.szB
  have e0 : U.cell? ⟨w.heap.size, 0, none⟩ = some (.int .i64 2) := E0.at rfl
  have e1 : U.cell? ⟨w.heap.size, 1, none⟩ = some (.int .i64 node) := E0.at rfl
  have e2 : U.cell? ⟨w.heap.size, 2, none⟩ = some (.int .i64 pick) := E0.at rfl
  have CDo := hide (deedOf_beat node pick U)
  have eb := ev_below U 2 node pick
  have H2 := hide (hu.below eb)
  have E2 := hide (E0.keep eb)
  have X2 : Hid (BK (evW U 2 node pick) U.heap.size 38 #[.int .i64 2, .int .i64 node, .int .i64 pick]) := hide (ev_bk U 2 node pick)
  have FE := hide (Frm.below eb _ fe0).1
  have B2 := hide (below_via hbU eb)
  have R2 : Hid (Frm A p w nv tv (evW U 2 node pick) nv tv) := hide (Frm.below (unhide B2))
  clear hu hbU E0 eb fe0 h
  go_enter Try.func12, Try.ntmps12
  go_upto_region 1 with fail
  rw [← hU]
  clear hU
  go_wp2_with fail
  refine (unhide CDo).mono ?_
  rintro e w1 ⟨rfl, ew⟩
  rw [← ew] at H2 E2 X2 FE B2 R2
  clear e0 e1 e2 CDo ew
  generalize U.heap.size = bx at X2 ⊢
  have e0 : w1.cell? ⟨w.heap.size, 0, none⟩ = some (.int .i64 2) := (unhide E2).at rfl
  have e1 : w1.cell? ⟨w.heap.size, 1, none⟩ = some (.int .i64 node) := (unhide E2).at rfl
  have e2 : w1.cell? ⟨w.heap.size, 2, none⟩ = some (.int .i64 pick) := (unhide E2).at rfl
  have hdn := deed_neq 28 #[] #[]
  obtain ⟨na, NL, ncap, -, -, -, -, -, hNL, -, -, -, -, q0, -, -, -⟩ := (unhide H2).tell
  have CN := hide (hasNode_any p NL ncap na node w1 q0)
  have dk : decide (1 ≤ node ∧ node ≤ (NL : Int)) = false := by have e : NL = W.nodes.length := unhide hNL; rw [e]; exact hno
  rw [dk] at CN
  clear dk hno
  have CO := hide (ofMessage_any 2 w1)
  rw [show decide ((2 : Int) = 4 ∨ (2 : Int) = 5 ∨ (2 : Int) = 6) = false from rfl] at CO
  go_wp2_with (first
    | (go_at_call 19; refine (unhide CN).mono ?_; rintro e w9 ⟨rfl, rfl⟩)
    | (go_at_call 22; refine (unhide CO).mono ?_; rintro e w9 ⟨rfl, rfl⟩))
  go_wp2
  go_end0
  exact ⟨rfl, _, _, _, _, unhide H2, (unhide B2).mono (unhide hszB), unhide R2⟩

end Go.Proofs.Ytneepoaimbnneaa.CL

namespace Go.Proofs.Ytneepoaimbnneaa.CL
open Go.RowKit
variable {A : Nat → Prop}

set_option maxHeartbeats 4000000 in
set_option maxRecDepth 100000 in
theorem happen_prop_no (node pick : Int) (B p : Nat) (W : Rf.Wd) (nv tv : Value) (nc tc : List Value) (w : World) (h : CW A B w p W nv tv nc tc) (hno : decide (1 ≤ node ∧ node ≤ (W.nodes.length : Int)) = false) :
    Calls Try.prog 12 #[.pointer (some ⟨p, 0, none⟩), .agg #[.int .i64 3, .int .i64 node, .int .i64 pick]] w (PC A B p nv tv w W) := by
  obtain ⟨U, hU⟩ : ∃ U, U = w.alloc (.cells #[.int .i64 3, .int .i64 node, .int .i64 pick] 38) := ⟨_, rfl⟩
  have hbU : Below w.heap.size w U := by rw [hU]; exact below_new _ _
  have E0 : BK U w.heap.size 38 #[.int .i64 3, .int .i64 node, .int .i64 pick] := by rw [hU]; exact BK.new _ _ _
  have fe0 : Fp A U p nv tv w.heap.size := Fp.new h (Nat.le_refl _) E0.low
  have hu := h.below hbU
  have hszB := hide h.szB
  have e0 : U.cell? ⟨w.heap.size, 0, none⟩ = some (.int .i64 3) := E0.at rfl
  have e1 : U.cell? ⟨w.heap.size, 1, none⟩ = some (.int .i64 node) := E0.at rfl
  have e2 : U.cell? ⟨w.heap.size, 2, none⟩ = some (.int .i64 pick) := E0.at rfl
  have CDo := hide (deedOf_prop node pick U)
  have eb := ev_below U 3 node pick
  have H2 := hide (hu.below eb)
  have E2 := hide (E0.keep eb)
  have X2 : Hid (BK (evW U 3 node pick) U.heap.size 38 #[.int .i64 3, .int .i64 node, .int .i64 pick]) := hide (ev_bk U 3 node pick)
  have FE := hide (Frm.below eb _ fe0).1
  have B2 := hide (below_via hbU eb)
  have R2 : Hid (Frm A p w nv tv (evW U 3 node pick) nv tv) := hide (Frm.below (unhide B2))
  clear hu hbU E0 eb fe0 h
  go_enter Try.func12, Try.ntmps12
  go_upto_region 1 with fail
  rw [← hU]
  clear hU
  go_wp2_with fail
  refine (unhide CDo).mono ?_
  rintro e w1 ⟨rfl, ew⟩
  rw [← ew] at H2 E2 X2 FE B2 R2
  clear e0 e1 e2 CDo ew
  generalize U.heap.size = bx at X2 ⊢
  have e0 : w1.cell? ⟨w.heap.size, 0, none⟩ = some (.int .i64 3) := (unhide E2).at rfl
  have e1 : w1.cell? ⟨w.heap.size, 1, none⟩ = some (.int .i64 node) := (unhide E2).at rfl
  have e2 : w1.cell? ⟨w.heap.size, 2, none⟩ = some (.int .i64 pick) := (unhide E2).at rfl
  have hdn := deed_neq 29 #[] #[.pointer (some ⟨bx, 0, none⟩)]
  obtain ⟨na, NL, ncap, -, -, -, -, -, hNL, -, -, -, -, q0, -, -, -⟩ := (unhide H2).tell
  have CN := hide (hasNode_any p NL ncap na node w1 q0)
  have dk : decide (1 ≤ node ∧ node ≤ (NL : Int)) = false := by have e : NL = W.nodes.length := unhide hNL; rw [e]; exact hno
  rw [dk] at CN
  clear dk hno
  have CO := hide (ofMessage_any 3 w1)
  rw [show decide ((3 : Int) = 4 ∨ (3 : Int) = 5 ∨ (3 : Int) = 6) = false from rfl] at CO
  go_wp2_with (first
    | (go_at_call 19; refine (unhide CN).mono ?_; rintro e w9 ⟨rfl, rfl⟩)
    | (go_at_call 22; refine (unhide CO).mono ?_; rintro e w9 ⟨rfl, rfl⟩))
  go_wp2
  go_end0
  exact ⟨rfl, _, _, _, _, unhide H2, (unhide B2).mono (unhide hszB), unhide R2⟩

end Go.Proofs.Ytneepoaimbnneaa.CL

namespace Go.Proofs.Ytneepoaimbnneaa.CL
open Go.RowKit
variable {A : Nat → Prop}

set_option maxHeartbeats 4000000 in
set_option maxRecDepth 100000 in
theorem happen_rest_no (node pick : Int) (B p : Nat) (W : Rf.Wd) (nv tv : Value) (nc tc : List Value) (w : World) (h : CW A B w p W nv tv nc tc) (hno : decide (1 ≤ node ∧ node ≤ (W.nodes.length : Int)) = false) :
    Calls Try.prog 12 #[.pointer (some ⟨p, 0, none⟩), .agg #[.int .i64 7, .int .i64 node, .int .i64 pick]] w (PC A B p nv tv w W) := by
  obtain ⟨U, hU⟩ : ∃ U, U = w.alloc (.cells #[.int .i64 7, .int .i64 node, .int .i64 pick] 38) := ⟨_, rfl⟩
  have hbU : Below w.heap.size w U := by rw [hU]; exact below_new _ _
  have E0 : BK U w.heap.size 38 #[.int .i64 7, .int .i64 node, .int .i64 pick] := by rw [hU]; exact BK.new _ _ _
  have fe0 : Fp A U p nv tv w.heap.size := Fp.new h (Nat.le_refl _) E0.low
  have hu := h.below hbU
  have hszB := hide h.szB
  have e0 : U.cell? ⟨w.heap.size, 0, none⟩ = some (.int .i64 7) := E0.at rfl
  have e1 : U.cell? ⟨w.heap.size, 1, none⟩ = some (.int .i64 node) := E0.at rfl
  have e2 : U.cell? ⟨w.heap.size, 2, none⟩ = some (.int .i64 pick) := E0.at rfl
  have CDo := hide (deedOf_rest node pick U)
  have eb := ev_below U 7 node pick
  have H2 := hide (hu.below eb)
  have E2 := hide (E0.keep eb)
  have X2 : Hid (BK (evW U 7 node pick) U.heap.size 38 #[.int .i64 7, .int .i64 node, .int .i64 pick]) := hide (ev_bk U 7 node pick)
  have FE := hide (Frm.below eb _ fe0).1
  have B2 := hide (below_via hbU eb)
  have R2 : Hid (Frm A p w nv tv (evW U 7 node pick) nv tv) := hide (Frm.below (unhide B2))
  clear hu hbU E0 eb fe0 h
  go_enter Try.func12, Try.ntmps12
  go_upto_region 1 with fail
  rw [← hU]
  clear hU
  go_wp2_with fail
  refine (unhide CDo).mono ?_
  rintro e w1 ⟨rfl, ew⟩
  rw [← ew] at H2 E2 X2 FE B2 R2
  clear e0 e1 e2 CDo ew
  generalize U.heap.size = bx at X2 ⊢
  have e0 : w1.cell? ⟨w.heap.size, 0, none⟩ = some (.int .i64 7) := (unhide E2).at rfl
  have e1 : w1.cell? ⟨w.heap.size, 1, none⟩ = some (.int .i64 node) := (unhide E2).at rfl
  have e2 : w1.cell? ⟨w.heap.size, 2, none⟩ = some (.int .i64 pick) := (unhide E2).at rfl
  have hdn := deed_neq 31 #[] #[]
  obtain ⟨na, NL, ncap, -, -, -, -, -, hNL, -, -, -, -, q0, -, -, -⟩ := (unhide H2).tell
  have CN := hide (hasNode_any p NL ncap na node w1 q0)
  have dk : decide (1 ≤ node ∧ node ≤ (NL : Int)) = false := by have e : NL = W.nodes.length := unhide hNL; rw [e]; exact hno
  rw [dk] at CN
  clear dk hno
  have CO := hide (ofMessage_any 7 w1)
  rw [show decide ((7 : Int) = 4 ∨ (7 : Int) = 5 ∨ (7 : Int) = 6) = false from rfl] at CO
  go_wp2_with (first
    | (go_at_call 19; refine (unhide CN).mono ?_; rintro e w9 ⟨rfl, rfl⟩)
    | (go_at_call 22; refine (unhide CO).mono ?_; rintro e w9 ⟨rfl, rfl⟩))
  go_wp2
  go_end0
  exact ⟨rfl, _, _, _, _, unhide H2, (unhide B2).mono (unhide hszB), unhide R2⟩

end Go.Proofs.Ytneepoaimbnneaa.CL

namespace Go.Proofs.Ytneepoaimbnneaa.CL
open Go.RowKit
variable {A : Nat → Prop}

set_option maxHeartbeats 4000000 in
set_option maxRecDepth 100000 in
theorem happen_copy {Fit : Rf.Node → Prop} {FitM : Rf.Msg → Prop} (R : RC Fit FitM) (i : Nat) (node : Int) (m : Rf.Msg) (B p : Nat) (W : Rf.Wd) (nv tv : Value) (nc tc : List Value) (w : World) (h : CW A B w p W nv tv nc tc) (hm : W.net[i]? = some m) (hT : W.net.length ≤ 900) (x : Rf.Node) (k : Nat) (hdk : m.dest = (k : Int) + 1) (hx : W.nodes[k]? = some x) (fx : Fit x) (fm : FitM m) (hN : W.nodes.length ≤ 900) :
    Calls Try.prog 12 #[.pointer (some ⟨p, 0, none⟩), .agg #[.int .i64 5, .int .i64 node, .int .i64 (i : Int)]] w (PC A B p nv tv w { nodes := W.nodes.set k (Rf.receive x m).1, net := Rf.trim ((W.net) ++ (Rf.receive x m).2) }) := by
  obtain ⟨U, hU⟩ : ∃ U, U = w.alloc (.cells #[.int .i64 5, .int .i64 node, .int .i64 (i : Int)] 38) := ⟨_, rfl⟩
  have hbU : Below w.heap.size w U := by rw [hU]; exact below_new _ _
  have E0 : BK U w.heap.size 38 #[.int .i64 5, .int .i64 node, .int .i64 (i : Int)] := by rw [hU]; exact BK.new _ _ _
  have fe0 : Fp A U p nv tv w.heap.size := Fp.new h (Nat.le_refl _) E0.low
  have hu := h.below hbU
  have hszB := hide h.szB
  have e0 : U.cell? ⟨w.heap.size, 0, none⟩ = some (.int .i64 5) := E0.at rfl
  have e1 : U.cell? ⟨w.heap.size, 1, none⟩ = some (.int .i64 node) := E0.at rfl
  have e2 : U.cell? ⟨w.heap.size, 2, none⟩ = some (.int .i64 (i : Int)) := E0.at rfl
  have CDo := hide (deedOf_none 5 node (i : Int) U (by decide) (by decide) (by decide) (by decide))
  have eb := ev_below U 5 node (i : Int)
  have H2 := hide (hu.below eb)
  have E2 := hide (E0.keep eb)
  have X2 : Hid (BK (evW U 5 node (i : Int)) U.heap.size 38 #[.int .i64 5, .int .i64 node, .int .i64 (i : Int)]) := hide (ev_bk U 5 node (i : Int))
  have FE := hide (Frm.below eb _ fe0).1
  have B2 := hide (below_via hbU eb)
  have R2 : Hid (Frm A p w nv tv (evW U 5 node (i : Int)) nv tv) := hide (Frm.below (unhide B2))
  clear hu hbU E0 eb fe0 h
  go_enter Try.func12, Try.ntmps12
  go_upto_region 1 with fail
  rw [← hU]
  clear hU
  go_wp2_with fail
  refine (unhide CDo).mono ?_
  rintro e w1 ⟨rfl, ew⟩
  rw [← ew] at H2 E2 X2 FE B2 R2
  clear e0 e1 e2 CDo ew
  generalize U.heap.size = bx at X2 ⊢
  have e0 : w1.cell? ⟨w.heap.size, 0, none⟩ = some (.int .i64 5) := (unhide E2).at rfl
  have e1 : w1.cell? ⟨w.heap.size, 1, none⟩ = some (.int .i64 node) := (unhide E2).at rfl
  have e2 : w1.cell? ⟨w.heap.size, 2, none⟩ = some (.int .i64 (i : Int)) := (unhide E2).at rfl
  have hdn := deed_nil
  obtain ⟨-, -, -, ta, TL, tcap, -, -, -, hTL, -, -, -, -, q1, -, -⟩ := (unhide H2).tell
  have hi : i < W.net.length := (List.getElem?_eq_some_iff.1 hm).1
  have CM := hide (hasMessage_any p TL tcap ta (i : Int) w1 q1)
  have dk : decide (0 ≤ (i : Int) ∧ (i : Int) < (TL : Int)) = true := decide_eq_true ⟨by omega, by have e : TL = W.net.length := unhide hTL; omega⟩
  rw [dk] at CM
  clear dk
  have CO := hide (ofMessage_any 5 w1)
  rw [show decide ((5 : Int) = 4 ∨ (5 : Int) = 5 ∨ (5 : Int) = 6) = true from rfl] at CO
  have CA := hide (carry_copy B p i node m W nv tv _ _ w1 (unhide H2) hm (by omega) R x k hdk hx fx fm (by omega))
  have HT := hide hT
  clear hdk
  go_wp2_with (first
    | (go_at_call 22; refine (unhide CO).mono ?_; rintro e w9 ⟨rfl, rfl⟩)
    | (go_at_call 23; refine (unhide CM).mono ?_; rintro e w9 ⟨rfl, rfl⟩))
  go_wp2_with fail
  refine (unhide CA).mono ?_
  rintro e w3 ⟨rfl, nv3, tv3, nc3, tc3, h3, b3, r3⟩
  have hT := unhide HT
  have CFo := hide (forget_any B p _ nv3 tv3 nc3 tc3 w3 h3 (by have := Rf.receive_len x m; simp only [List.length_append]; omega))
  have B3 := hide (((unhide B2).mono (unhide hszB)).trans b3)
  have R3 := hide ((unhide R2).trans r3)
  clear e0 e1 e2 q1 CM CO CA h3 b3 r3 H2 E2 X2 FE B2 R2
  go_wp2_with fail
  refine (unhide CFo).mono ?_
  rintro e w4 ⟨rfl, nv4, tv4, nc4, tc4, h4, b4, r4⟩
  have HF := hide (And.intro h4 (And.intro ((unhide B3).trans b4) ((unhide R3).trans r4)))
  clear h4 b4 r4 CFo B3 R3
  go_wp2
  go_end0
  exact ⟨rfl, nv4, tv4, nc4, tc4, (unhide HF).1, (unhide HF).2.1, (unhide HF).2.2⟩

end Go.Proofs.Ytneepoaimbnneaa.CL

namespace Go.Proofs.Ytneepoaimbnneaa.CL
open Go.RowKit
variable {A : Nat → Prop}

set_option maxHeartbeats 4000000 in
set_option maxRecDepth 100000 in
theorem happen_copy_no  (i : Nat) (node : Int) (m : Rf.Msg) (B p : Nat) (W : Rf.Wd) (nv tv : Value) (nc tc : List Value) (w : World) (h : CW A B w p W nv tv nc tc) (hm : W.net[i]? = some m) (hT : W.net.length ≤ 900) (hno : decide (1 ≤ m.dest ∧ m.dest ≤ (W.nodes.length : Int)) = false) :
    Calls Try.prog 12 #[.pointer (some ⟨p, 0, none⟩), .agg #[.int .i64 5, .int .i64 node, .int .i64 (i : Int)]] w (PC A B p nv tv w { W with net := Rf.trim (W.net) }) := by
  obtain ⟨U, hU⟩ : ∃ U, U = w.alloc (.cells #[.int .i64 5, .int .i64 node, .int .i64 (i : Int)] 38) := ⟨_, rfl⟩
  have hbU : Below w.heap.size w U := by rw [hU]; exact below_new _ _
  have E0 : BK U w.heap.size 38 #[.int .i64 5, .int .i64 node, .int .i64 (i : Int)] := by rw [hU]; exact BK.new _ _ _
  have fe0 : Fp A U p nv tv w.heap.size := Fp.new h (Nat.le_refl _) E0.low
  have hu := h.below hbU
  have hszB := hide h.szB
  have e0 : U.cell? ⟨w.heap.size, 0, none⟩ = some (.int .i64 5) := E0.at rfl
  have e1 : U.cell? ⟨w.heap.size, 1, none⟩ = some (.int .i64 node) := E0.at rfl
  have e2 : U.cell? ⟨w.heap.size, 2, none⟩ = some (.int .i64 (i : Int)) := E0.at rfl
  have CDo := hide (deedOf_none 5 node (i : Int) U (by decide) (by decide) (by decide) (by decide))
  have eb := ev_below U 5 node (i : Int)
  have H2 := hide (hu.below eb)
  have E2 := hide (E0.keep eb)
  have X2 : Hid (BK (evW U 5 node (i : Int)) U.heap.size 38 #[.int .i64 5, .int .i64 node, .int .i64 (i : Int)]) := hide (ev_bk U 5 node (i : Int))
  have FE := hide (Frm.below eb _ fe0).1
  have B2 := hide (below_via hbU eb)
  have R2 : Hid (Frm A p w nv tv (evW U 5 node (i : Int)) nv tv) := hide (Frm.below (unhide B2))
  clear hu hbU E0 eb fe0 h
  go_enter Try.func12, Try.ntmps12
  go_upto_region 1 with fail
  rw [← hU]
  clear hU
  go_wp2_with fail
  refine (unhide CDo).mono ?_
  rintro e w1 ⟨rfl, ew⟩
  rw [← ew] at H2 E2 X2 FE B2 R2
  clear e0 e1 e2 CDo ew
  generalize U.heap.size = bx at X2 ⊢
  have e0 : w1.cell? ⟨w.heap.size, 0, none⟩ = some (.int .i64 5) := (unhide E2).at rfl
  have e1 : w1.cell? ⟨w.heap.size, 1, none⟩ = some (.int .i64 node) := (unhide E2).at rfl
  have e2 : w1.cell? ⟨w.heap.size, 2, none⟩ = some (.int .i64 (i : Int)) := (unhide E2).at rfl
  have hdn := deed_nil
  obtain ⟨-, -, -, ta, TL, tcap, -, -, -, hTL, -, -, -, -, q1, -, -⟩ := (unhide H2).tell
  have hi : i < W.net.length := (List.getElem?_eq_some_iff.1 hm).1
  have CM := hide (hasMessage_any p TL tcap ta (i : Int) w1 q1)
  have dk : decide (0 ≤ (i : Int) ∧ (i : Int) < (TL : Int)) = true := decide_eq_true ⟨by omega, by have e : TL = W.net.length := unhide hTL; omega⟩
  rw [dk] at CM
  clear dk
  have CO := hide (ofMessage_any 5 w1)
  rw [show decide ((5 : Int) = 4 ∨ (5 : Int) = 5 ∨ (5 : Int) = 6) = true from rfl] at CO
  have CA := hide (carry_copy_no B p i node m W nv tv _ _ w1 (unhide H2) hm (by omega) hno)
  have HT := hide hT
  clear hno
  go_wp2_with (first
    | (go_at_call 22; refine (unhide CO).mono ?_; rintro e w9 ⟨rfl, rfl⟩)
    | (go_at_call 23; refine (unhide CM).mono ?_; rintro e w9 ⟨rfl, rfl⟩))
  go_wp2_with fail
  refine (unhide CA).mono ?_
  rintro e w3 ⟨rfl, nv3, tv3, nc3, tc3, h3, b3, r3⟩
  have hT := unhide HT
  have CFo := hide (forget_any B p _ nv3 tv3 nc3 tc3 w3 h3 (by omega))
  have B3 := hide (((unhide B2).mono (unhide hszB)).trans b3)
  have R3 := hide ((unhide R2).trans r3)
  clear e0 e1 e2 q1 CM CO CA h3 b3 r3 H2 E2 X2 FE B2 R2
  go_wp2_with fail
  refine (unhide CFo).mono ?_
  rintro e w4 ⟨rfl, nv4, tv4, nc4, tc4, h4, b4, r4⟩
  have HF := hide (And.intro h4 (And.intro ((unhide B3).trans b4) ((unhide R3).trans r4)))
  clear h4 b4 r4 CFo B3 R3
  go_wp2
  go_end0
  exact ⟨rfl, nv4, tv4, nc4, tc4, (unhide HF).1, (unhide HF).2.1, (unhide HF).2.2⟩

end Go.Proofs.Ytneepoaimbnneaa.CL

namespace Go.Proofs.Ytneepoaimbnneaa.CL
open Go.RowKit
variable {A : Nat → Prop}

set_option maxHeartbeats 4000000 in
set_option maxRecDepth 100000 in
theorem happen_come {Fit : Rf.Node → Prop} {FitM : Rf.Msg → Prop} (R : RC Fit FitM) (i : Nat) (node : Int) (m : Rf.Msg) (B p : Nat) (W : Rf.Wd) (nv tv : Value) (nc tc : List Value) (w : World) (h : CW A B w p W nv tv nc tc) (hm : W.net[i]? = some m) (hT : W.net.length ≤ 900) (x : Rf.Node) (k : Nat) (hdk : m.dest = (k : Int) + 1) (hx : W.nodes[k]? = some x) (fx : Fit x) (fm : FitM m) (hN : W.nodes.length ≤ 900) :
    Calls Try.prog 12 #[.pointer (some ⟨p, 0, none⟩), .agg #[.int .i64 4, .int .i64 node, .int .i64 (i : Int)]] w (PC A B p nv tv w { nodes := W.nodes.set k (Rf.receive x m).1, net := Rf.trim ((W.net.eraseIdx i) ++ (Rf.receive x m).2) }) := by
  obtain ⟨U, hU⟩ : ∃ U, U = w.alloc (.cells #[.int .i64 4, .int .i64 node, .int .i64 (i : Int)] 38) := ⟨_, rfl⟩
  have hbU : Below w.heap.size w U := by rw [hU]; exact below_new _ _
  have E0 : BK U w.heap.size 38 #[.int .i64 4, .int .i64 node, .int .i64 (i : Int)] := by rw [hU]; exact BK.new _ _ _
  have fe0 : Fp A U p nv tv w.heap.size := Fp.new h (Nat.le_refl _) E0.low
  have hu := h.below hbU
  have hszB := hide h.szB
  have e0 : U.cell? ⟨w.heap.size, 0, none⟩ = some (.int .i64 4) := E0.at rfl
  have e1 : U.cell? ⟨w.heap.size, 1, none⟩ = some (.int .i64 node) := E0.at rfl
  have e2 : U.cell? ⟨w.heap.size, 2, none⟩ = some (.int .i64 (i : Int)) := E0.at rfl
  have CDo := hide (deedOf_none 4 node (i : Int) U (by decide) (by decide) (by decide) (by decide))
  have eb := ev_below U 4 node (i : Int)
  have H2 := hide (hu.below eb)
  have E2 := hide (E0.keep eb)
  have X2 : Hid (BK (evW U 4 node (i : Int)) U.heap.size 38 #[.int .i64 4, .int .i64 node, .int .i64 (i : Int)]) := hide (ev_bk U 4 node (i : Int))
  have FE := hide (Frm.below eb _ fe0).1
  have B2 := hide (below_via hbU eb)
  have R2 : Hid (Frm A p w nv tv (evW U 4 node (i : Int)) nv tv) := hide (Frm.below (unhide B2))
  clear hu hbU E0 eb fe0 h
  go_enter Try.func12, Try.ntmps12
  go_upto_region 1 with fail
  rw [← hU]
  clear hU
  go_wp2_with fail
  refine (unhide CDo).mono ?_
  rintro e w1 ⟨rfl, ew⟩
  rw [← ew] at H2 E2 X2 FE B2 R2
  clear e0 e1 e2 CDo ew
  generalize U.heap.size = bx at X2 ⊢
  have e0 : w1.cell? ⟨w.heap.size, 0, none⟩ = some (.int .i64 4) := (unhide E2).at rfl
  have e1 : w1.cell? ⟨w.heap.size, 1, none⟩ = some (.int .i64 node) := (unhide E2).at rfl
  have e2 : w1.cell? ⟨w.heap.size, 2, none⟩ = some (.int .i64 (i : Int)) := (unhide E2).at rfl
  have hdn := deed_nil
  obtain ⟨-, -, -, ta, TL, tcap, -, -, -, hTL, -, -, -, -, q1, -, -⟩ := (unhide H2).tell
  have hi : i < W.net.length := (List.getElem?_eq_some_iff.1 hm).1
  have CM := hide (hasMessage_any p TL tcap ta (i : Int) w1 q1)
  have dk : decide (0 ≤ (i : Int) ∧ (i : Int) < (TL : Int)) = true := decide_eq_true ⟨by omega, by have e : TL = W.net.length := unhide hTL; omega⟩
  rw [dk] at CM
  clear dk
  have CO := hide (ofMessage_any 4 w1)
  rw [show decide ((4 : Int) = 4 ∨ (4 : Int) = 5 ∨ (4 : Int) = 6) = true from rfl] at CO
  have CA := hide (carry_come B p i node m W nv tv _ _ w1 (unhide H2) hm (by omega) R x k hdk hx fx fm (by omega))
  have HT := hide hT
  clear hdk
  go_wp2_with (first
    | (go_at_call 22; refine (unhide CO).mono ?_; rintro e w9 ⟨rfl, rfl⟩)
    | (go_at_call 23; refine (unhide CM).mono ?_; rintro e w9 ⟨rfl, rfl⟩))
  go_wp2_with fail
  refine (unhide CA).mono ?_
  rintro e w3 ⟨rfl, nv3, tv3, nc3, tc3, h3, b3, r3⟩
  have hT := unhide HT
  have CFo := hide (forget_any B p _ nv3 tv3 nc3 tc3 w3 h3 (by have := Rf.receive_len x m; have := List.length_eraseIdx_le W.net i; simp only [List.length_append]; omega))
  have B3 := hide (((unhide B2).mono (unhide hszB)).trans b3)
  have R3 := hide ((unhide R2).trans r3)
  clear e0 e1 e2 q1 CM CO CA h3 b3 r3 H2 E2 X2 FE B2 R2
  go_wp2_with fail
  refine (unhide CFo).mono ?_
  rintro e w4 ⟨rfl, nv4, tv4, nc4, tc4, h4, b4, r4⟩
  have HF := hide (And.intro h4 (And.intro ((unhide B3).trans b4) ((unhide R3).trans r4)))
  clear h4 b4 r4 CFo B3 R3
  go_wp2
  go_end0
  exact ⟨rfl, nv4, tv4, nc4, tc4, (unhide HF).1, (unhide HF).2.1, (unhide HF).2.2⟩

end Go.Proofs.Ytneepoaimbnneaa.CL

namespace Go.Proofs.Ytneepoaimbnneaa.CL
open Go.RowKit
variable {A : Nat → Prop}

set_option maxHeartbeats 4000000 in
set_option maxRecDepth 100000 in
theorem happen_come_no  (i : Nat) (node : Int) (m : Rf.Msg) (B p : Nat) (W : Rf.Wd) (nv tv : Value) (nc tc : List Value) (w : World) (h : CW A B w p W nv tv nc tc) (hm : W.net[i]? = some m) (hT : W.net.length ≤ 900) (hno : decide (1 ≤ m.dest ∧ m.dest ≤ (W.nodes.length : Int)) = false) :
    Calls Try.prog 12 #[.pointer (some ⟨p, 0, none⟩), .agg #[.int .i64 4, .int .i64 node, .int .i64 (i : Int)]] w (PC A B p nv tv w { W with net := Rf.trim (W.net.eraseIdx i) }) := by
  obtain ⟨U, hU⟩ : ∃ U, U = w.alloc (.cells #[.int .i64 4, .int .i64 node, .int .i64 (i : Int)] 38) := ⟨_, rfl⟩
  have hbU : Below w.heap.size w U := by rw [hU]; exact below_new _ _
  have E0 : BK U w.heap.size 38 #[.int .i64 4, .int .i64 node, .int .i64 (i : Int)] := by rw [hU]; exact BK.new _ _ _
  have fe0 : Fp A U p nv tv w.heap.size := Fp.new h (Nat.le_refl _) E0.low
  have hu := h.below hbU
  have hszB := hide h.szB
  have e0 : U.cell? ⟨w.heap.size, 0, none⟩ = some (.int .i64 4) := E0.at rfl
  have e1 : U.cell? ⟨w.heap.size, 1, none⟩ = some (.int .i64 node) := E0.at rfl
  have e2 : U.cell? ⟨w.heap.size, 2, none⟩ = some (.int .i64 (i : Int)) := E0.at rfl
  have CDo := hide (deedOf_none 4 node (i : Int) U (by decide) (by decide) (by decide) (by decide))
  have eb := ev_below U 4 node (i : Int)
  have H2 := hide (hu.below eb)
  have E2 := hide (E0.keep eb)
  have X2 : Hid (BK (evW U 4 node (i : Int)) U.heap.size 38 #[.int .i64 4, .int .i64 node, .int .i64 (i : Int)]) := hide (ev_bk U 4 node (i : Int))
  have FE := hide (Frm.below eb _ fe0).1
  have B2 := hide (below_via hbU eb)
  have R2 : Hid (Frm A p w nv tv (evW U 4 node (i : Int)) nv tv) := hide (Frm.below (unhide B2))
  clear hu hbU E0 eb fe0 h
  go_enter Try.func12, Try.ntmps12
  go_upto_region 1 with fail
  rw [← hU]
  clear hU
  go_wp2_with fail
  refine (unhide CDo).mono ?_
  rintro e w1 ⟨rfl, ew⟩
  rw [← ew] at H2 E2 X2 FE B2 R2
  clear e0 e1 e2 CDo ew
  generalize U.heap.size = bx at X2 ⊢
  have e0 : w1.cell? ⟨w.heap.size, 0, none⟩ = some (.int .i64 4) := (unhide E2).at rfl
  have e1 : w1.cell? ⟨w.heap.size, 1, none⟩ = some (.int .i64 node) := (unhide E2).at rfl
  have e2 : w1.cell? ⟨w.heap.size, 2, none⟩ = some (.int .i64 (i : Int)) := (unhide E2).at rfl
  have hdn := deed_nil
  obtain ⟨-, -, -, ta, TL, tcap, -, -, -, hTL, -, -, -, -, q1, -, -⟩ := (unhide H2).tell
  have hi : i < W.net.length := (List.getElem?_eq_some_iff.1 hm).1
  have CM := hide (hasMessage_any p TL tcap ta (i : Int) w1 q1)
  have dk : decide (0 ≤ (i : Int) ∧ (i : Int) < (TL : Int)) = true := decide_eq_true ⟨by omega, by have e : TL = W.net.length := unhide hTL; omega⟩
  rw [dk] at CM
  clear dk
  have CO := hide (ofMessage_any 4 w1)
  rw [show decide ((4 : Int) = 4 ∨ (4 : Int) = 5 ∨ (4 : Int) = 6) = true from rfl] at CO
  have CA := hide (carry_come_no B p i node m W nv tv _ _ w1 (unhide H2) hm (by omega) hno)
  have HT := hide hT
  clear hno
  go_wp2_with (first
    | (go_at_call 22; refine (unhide CO).mono ?_; rintro e w9 ⟨rfl, rfl⟩)
    | (go_at_call 23; refine (unhide CM).mono ?_; rintro e w9 ⟨rfl, rfl⟩))
  go_wp2_with fail
  refine (unhide CA).mono ?_
  rintro e w3 ⟨rfl, nv3, tv3, nc3, tc3, h3, b3, r3⟩
  have hT := unhide HT
  have CFo := hide (forget_any B p _ nv3 tv3 nc3 tc3 w3 h3 (by have := List.length_eraseIdx_le W.net i; simp only; omega))
  have B3 := hide (((unhide B2).mono (unhide hszB)).trans b3)
  have R3 := hide ((unhide R2).trans r3)
  clear e0 e1 e2 q1 CM CO CA h3 b3 r3 H2 E2 X2 FE B2 R2
  go_wp2_with fail
  refine (unhide CFo).mono ?_
  rintro e w4 ⟨rfl, nv4, tv4, nc4, tc4, h4, b4, r4⟩
  have HF := hide (And.intro h4 (And.intro ((unhide B3).trans b4) ((unhide R3).trans r4)))
  clear h4 b4 r4 CFo B3 R3
  go_wp2
  go_end0
  exact ⟨rfl, nv4, tv4, nc4, tc4, (unhide HF).1, (unhide HF).2.1, (unhide HF).2.2⟩

end Go.Proofs.Ytneepoaimbnneaa.CL

namespace Go.Proofs.Ytneepoaimbnneaa.CL
open Go.RowKit
variable {A : Nat → Prop}

set_option maxHeartbeats 4000000 in
set_option maxRecDepth 100000 in
theorem happen_drop  (i : Nat) (node : Int) (m : Rf.Msg) (B p : Nat) (W : Rf.Wd) (nv tv : Value) (nc tc : List Value) (w : World) (h : CW A B w p W nv tv nc tc) (hm : W.net[i]? = some m) (hT : W.net.length ≤ 900) :
    Calls Try.prog 12 #[.pointer (some ⟨p, 0, none⟩), .agg #[.int .i64 6, .int .i64 node, .int .i64 (i : Int)]] w (PC A B p nv tv w { W with net := Rf.trim (W.net.eraseIdx i) }) := by
  obtain ⟨U, hU⟩ : ∃ U, U = w.alloc (.cells #[.int .i64 6, .int .i64 node, .int .i64 (i : Int)] 38) := ⟨_, rfl⟩
  have hbU : Below w.heap.size w U := by rw [hU]; exact below_new _ _
  have E0 : BK U w.heap.size 38 #[.int .i64 6, .int .i64 node, .int .i64 (i : Int)] := by rw [hU]; exact BK.new _ _ _
  have fe0 : Fp A U p nv tv w.heap.size := Fp.new h (Nat.le_refl _) E0.low
  have hu := h.below hbU
  have hszB := hide h.szB
  have e0 : U.cell? ⟨w.heap.size, 0, none⟩ = some (.int .i64 6) := E0.at rfl
  have e1 : U.cell? ⟨w.heap.size, 1, none⟩ = some (.int .i64 node) := E0.at rfl
  have e2 : U.cell? ⟨w.heap.size, 2, none⟩ = some (.int .i64 (i : Int)) := E0.at rfl
  have CDo := hide (deedOf_none 6 node (i : Int) U (by decide) (by decide) (by decide) (by decide))
  have eb := ev_below U 6 node (i : Int)
  have H2 := hide (hu.below eb)
  have E2 := hide (E0.keep eb)
  have X2 : Hid (BK (evW U 6 node (i : Int)) U.heap.size 38 #[.int .i64 6, .int .i64 node, .int .i64 (i : Int)]) := hide (ev_bk U 6 node (i : Int))
  have FE := hide (Frm.below eb _ fe0).1
  have B2 := hide (below_via hbU eb)
  have R2 : Hid (Frm A p w nv tv (evW U 6 node (i : Int)) nv tv) := hide (Frm.below (unhide B2))
  clear hu hbU E0 eb fe0 h
  go_enter Try.func12, Try.ntmps12
  go_upto_region 1 with fail
  rw [← hU]
  clear hU
  go_wp2_with fail
  refine (unhide CDo).mono ?_
  rintro e w1 ⟨rfl, ew⟩
  rw [← ew] at H2 E2 X2 FE B2 R2
  clear e0 e1 e2 CDo ew
  generalize U.heap.size = bx at X2 ⊢
  have e0 : w1.cell? ⟨w.heap.size, 0, none⟩ = some (.int .i64 6) := (unhide E2).at rfl
  have e1 : w1.cell? ⟨w.heap.size, 1, none⟩ = some (.int .i64 node) := (unhide E2).at rfl
  have e2 : w1.cell? ⟨w.heap.size, 2, none⟩ = some (.int .i64 (i : Int)) := (unhide E2).at rfl
  have hdn := deed_nil
  obtain ⟨-, -, -, ta, TL, tcap, -, -, -, hTL, -, -, -, -, q1, -, -⟩ := (unhide H2).tell
  have hi : i < W.net.length := (List.getElem?_eq_some_iff.1 hm).1
  have CM := hide (hasMessage_any p TL tcap ta (i : Int) w1 q1)
  have dk : decide (0 ≤ (i : Int) ∧ (i : Int) < (TL : Int)) = true := decide_eq_true ⟨by omega, by have e : TL = W.net.length := unhide hTL; omega⟩
  rw [dk] at CM
  clear dk
  have CO := hide (ofMessage_any 6 w1)
  rw [show decide ((6 : Int) = 4 ∨ (6 : Int) = 5 ∨ (6 : Int) = 6) = true from rfl] at CO
  have CA := hide (carry_drop B p i node m W nv tv _ _ w1 (unhide H2) hm (by omega) )
  have HT := hide hT

  go_wp2_with (first
    | (go_at_call 22; refine (unhide CO).mono ?_; rintro e w9 ⟨rfl, rfl⟩)
    | (go_at_call 23; refine (unhide CM).mono ?_; rintro e w9 ⟨rfl, rfl⟩))
  go_wp2_with fail
  refine (unhide CA).mono ?_
  rintro e w3 ⟨rfl, nv3, tv3, nc3, tc3, h3, b3, r3⟩
  have hT := unhide HT
  have CFo := hide (forget_any B p _ nv3 tv3 nc3 tc3 w3 h3 (by have := List.length_eraseIdx_le W.net i; simp only; omega))
  have B3 := hide (((unhide B2).mono (unhide hszB)).trans b3)
  have R3 := hide ((unhide R2).trans r3)
  clear e0 e1 e2 q1 CM CO CA h3 b3 r3 H2 E2 X2 FE B2 R2
  go_wp2_with fail
  refine (unhide CFo).mono ?_
  rintro e w4 ⟨rfl, nv4, tv4, nc4, tc4, h4, b4, r4⟩
  have HF := hide (And.intro h4 (And.intro ((unhide B3).trans b4) ((unhide R3).trans r4)))
  clear h4 b4 r4 CFo B3 R3
  go_wp2
  go_end0
  exact ⟨rfl, nv4, tv4, nc4, tc4, (unhide HF).1, (unhide HF).2.1, (unhide HF).2.2⟩

end Go.Proofs.Ytneepoaimbnneaa.CL

namespace Go.Proofs.Ytneepoaimbnneaa.CL
open Go.RowKit
variable {A : Nat → Prop}

set_option maxHeartbeats 4000000 in
set_option maxRecDepth 100000 in
theorem happen_nomsg (kind node pick : Int) (B p : Nat) (W : Rf.Wd) (nv tv : Value) (nc tc : List Value) (w : World) (h : CW A B w p W nv tv nc tc) (hk : decide (kind = 4 ∨ kind = 5 ∨ kind = 6) = true) (hno : decide (0 ≤ pick ∧ pick < (W.net.length : Int)) = false) :
    Calls Try.prog 12 #[.pointer (some ⟨p, 0, none⟩), .agg #[.int .i64 kind, .int .i64 node, .int .i64 pick]] w (PC A B p nv tv w W) := by
  have hk' := of_decide_eq_true hk
  obtain ⟨U, hU⟩ : ∃ U, U = w.alloc (.cells #[.int .i64 kind, .int .i64 node, .int .i64 pick] 38) := ⟨_, rfl⟩
  have hbU : Below w.heap.size w U := by rw [hU]; exact below_new _ _
  have E0 : BK U w.heap.size 38 #[.int .i64 kind, .int .i64 node, .int .i64 pick] := by rw [hU]; exact BK.new _ _ _
  have fe0 : Fp A U p nv tv w.heap.size := Fp.new h (Nat.le_refl _) E0.low
  have hu := h.below hbU
  have hszB := hide h.szB
  have e0 : U.cell? ⟨w.heap.size, 0, none⟩ = some (.int .i64 kind) := E0.at rfl
  have e1 : U.cell? ⟨w.heap.size, 1, none⟩ = some (.int .i64 node) := E0.at rfl
  have e2 : U.cell? ⟨w.heap.size, 2, none⟩ = some (.int .i64 pick) := E0.at rfl
  have CDo := hide (deedOf_none kind node pick U (by omega) (by omega) (by omega) (by omega))
  have eb := ev_below U kind node pick
  have H2 := hide (hu.below eb)
  have E2 := hide (E0.keep eb)
  have X2 : Hid (BK (evW U kind node pick) U.heap.size 38 #[.int .i64 kind, .int .i64 node, .int .i64 pick]) := hide (ev_bk U kind node pick)
  have FE := hide (Frm.below eb _ fe0).1
  have B2 := hide (below_via hbU eb)
  have R2 : Hid (Frm A p w nv tv (evW U kind node pick) nv tv) := hide (Frm.below (unhide B2))
  clear hu hbU E0 eb fe0 h
  go_enter Try.func12, Try.ntmps12
  go_upto_region 1 with fail
  rw [← hU]
  clear hU
  go_wp2_with fail
  refine (unhide CDo).mono ?_
  rintro e w1 ⟨rfl, ew⟩
  rw [← ew] at H2 E2 X2 FE B2 R2
  clear e0 e1 e2 CDo ew
  generalize U.heap.size = bx at X2 ⊢
  have e0 : w1.cell? ⟨w.heap.size, 0, none⟩ = some (.int .i64 kind) := (unhide E2).at rfl
  have e1 : w1.cell? ⟨w.heap.size, 1, none⟩ = some (.int .i64 node) := (unhide E2).at rfl
  have e2 : w1.cell? ⟨w.heap.size, 2, none⟩ = some (.int .i64 pick) := (unhide E2).at rfl
  have hdn := deed_nil
  obtain ⟨-, -, -, ta, TL, tcap, -, -, -, hTL, -, -, -, -, q1, -, -⟩ := (unhide H2).tell
  have CM := hide (hasMessage_any p TL tcap ta pick w1 q1)
  have dk : decide (0 ≤ pick ∧ pick < (TL : Int)) = false := by have e : TL = W.net.length := unhide hTL; rw [e]; exact hno
  rw [dk] at CM
  have CO := hide (ofMessage_any kind w1)
  rw [hk] at CO
  clear dk hk hk' hno
  go_wp2_with (first
    | (go_at_call 22; refine (unhide CO).mono ?_; rintro e w9 ⟨rfl, rfl⟩)
    | (go_at_call 23; refine (unhide CM).mono ?_; rintro e w9 ⟨rfl, rfl⟩))
  go_wp2
  go_end0
  exact ⟨rfl, _, _, _, _, unhide H2, (unhide B2).mono (unhide hszB), unhide R2⟩

set_option maxHeartbeats 4000000 in
set_option maxRecDepth 100000 in
theorem happen_none (kind node pick : Int) (B p : Nat) (W : Rf.Wd) (nv tv : Value) (nc tc : List Value) (w : World) (h : CW A B w p W nv tv nc tc) (hk : decide (kind = 4 ∨ kind = 5 ∨ kind = 6) = false) (h1 : kind ≠ 1) (h2 : kind ≠ 2) (h3 : kind ≠ 3) (h7 : kind ≠ 7) :
    Calls Try.prog 12 #[.pointer (some ⟨p, 0, none⟩), .agg #[.int .i64 kind, .int .i64 node, .int .i64 pick]] w (PC A B p nv tv w W) := by
  obtain ⟨U, hU⟩ : ∃ U, U = w.alloc (.cells #[.int .i64 kind, .int .i64 node, .int .i64 pick] 38) := ⟨_, rfl⟩
  have hbU : Below w.heap.size w U := by rw [hU]; exact below_new _ _
  have E0 : BK U w.heap.size 38 #[.int .i64 kind, .int .i64 node, .int .i64 pick] := by rw [hU]; exact BK.new _ _ _
  have fe0 : Fp A U p nv tv w.heap.size := Fp.new h (Nat.le_refl _) E0.low
  have hu := h.below hbU
  have hszB := hide h.szB
  have e0 : U.cell? ⟨w.heap.size, 0, none⟩ = some (.int .i64 kind) := E0.at rfl
  have e1 : U.cell? ⟨w.heap.size, 1, none⟩ = some (.int .i64 node) := E0.at rfl
  have e2 : U.cell? ⟨w.heap.size, 2, none⟩ = some (.int .i64 pick) := E0.at rfl
  have CDo := hide (deedOf_none kind node pick U h1 h2 h3 h7)
  have eb := ev_below U kind node pick
  have H2 := hide (hu.below eb)
  have E2 := hide (E0.keep eb)
  have X2 : Hid (BK (evW U kind node pick) U.heap.size 38 #[.int .i64 kind, .int .i64 node, .int .i64 pick]) := hide (ev_bk U kind node pick)
  have FE := hide (Frm.below eb _ fe0).1
  have B2 := hide (below_via hbU eb)
  have R2 : Hid (Frm A p w nv tv (evW U kind node pick) nv tv) := hide (Frm.below (unhide B2))
  clear hu hbU E0 eb fe0 h
  go_enter Try.func12, Try.ntmps12
  go_upto_region 1 with fail
  rw [← hU]
  clear hU
  go_wp2_with fail
  refine (unhide CDo).mono ?_
  rintro e w1 ⟨rfl, ew⟩
  rw [← ew] at H2 E2 X2 FE B2 R2
  clear e0 e1 e2 CDo ew
  generalize U.heap.size = bx at X2 ⊢
  have e0 : w1.cell? ⟨w.heap.size, 0, none⟩ = some (.int .i64 kind) := (unhide E2).at rfl
  have e1 : w1.cell? ⟨w.heap.size, 1, none⟩ = some (.int .i64 node) := (unhide E2).at rfl
  have e2 : w1.cell? ⟨w.heap.size, 2, none⟩ = some (.int .i64 pick) := (unhide E2).at rfl
  have hdn := deed_nil
  have CO := hide (ofMessage_any kind w1)
  rw [hk] at CO
  clear hk h1 h2 h3 h7
  go_wp2_with (go_at_call 22; refine (unhide CO).mono ?_; rintro e w9 ⟨rfl, rfl⟩)
  go_wp2
  go_end0
  exact ⟨rfl, _, _, _, _, unhide H2, (unhide B2).mono (unhide hszB), unhide R2⟩

end Go.Proofs.Ytneepoaimbnneaa.CL

namespace Go.Proofs.Ytneepoaimbnneaa.Rf

theorem acts_some {W : Wd} {net : List Msg} {k : Nat} {x : Node} (f : Node → Node × List Msg) (h : W.nodes[k]? = some x) : acts W net ((k : Int) + 1) f = { nodes := W.nodes.set k (f x).1, net := trim (net ++ (f x).2) } := by
  have e : ((k : Int) + 1 - 1).toNat = k := by omega
  unfold acts
  rw [e, if_pos (by omega), h]
theorem acts_none {W : Wd} {net : List Msg} {n : Int} (f : Node → Node × List Msg) (h : ¬ (1 ≤ n ∧ n ≤ (W.nodes.length : Int))) : acts W net n f = { nodes := W.nodes, net := trim net } := by
  unfold acts
  by_cases h1 : 1 ≤ n
  · rw [if_pos h1, List.getElem?_eq_none (by omega)]
  · rw [if_neg h1]
theorem trim_id {l : List Msg} (h : l.length ≤ 60) : trim l = l := by
  unfold trim
  rw [show l.length - 60 = 0 by omega]
  rfl
theorem at_node {W : Wd} {n : Int} (h : 1 ≤ n ∧ n ≤ (W.nodes.length : Int)) : ∃ (k : Nat) (x : Node), n = (k : Int) + 1 ∧ W.nodes[k]? = some x :=
  ⟨(n - 1).toNat, _, by omega, List.getElem?_eq_getElem (by omega)⟩
theorem at_msg {W : Wd} {n : Int} (h : 0 ≤ n ∧ n < (W.net.length : Int)) : ∃ (k : Nat) (m : Msg), n = (k : Int) ∧ W.net[k]? = some m :=
  ⟨n.toNat, _, by omega, List.getElem?_eq_getElem (by omega)⟩

end Go.Proofs.Ytneepoaimbnneaa.Rf
namespace Go.Proofs.Ytneepoaimbnneaa.CL
open Go.RowKit
variable {A : Nat → Prop}

theorem happen_any {Fit : Rf.Node → Prop} {FitM : Rf.Msg → Prop} (R : RC Fit FitM) (kind node pick : Int) (B p : Nat) (W : Rf.Wd) (nv tv : Value) (nc tc : List Value) (w : World) (h : CW A B w p W nv tv nc tc) (hf : ∀ x ∈ W.nodes, Fit x) (hm : ∀ m ∈ W.net, FitM m) (hN : W.nodes.length ≤ 900) (hT : W.net.length ≤ 60) :
    Calls Try.prog 12 #[.pointer (some ⟨p, 0, none⟩), .agg #[.int .i64 kind, .int .i64 node, .int .i64 pick]] w (PC A B p nv tv w (Rf.stepW W ⟨kind, node, pick⟩)) := by
  have hT9 : W.net.length ≤ 900 := by omega
  by_cases k4 : kind = 4 ∨ kind = 5 ∨ kind = 6
  · by_cases hp : 0 ≤ pick ∧ pick < (W.net.length : Int)
    · obtain ⟨i, m, rfl, hi⟩ := Rf.at_msg hp
      have hfm := hm m (List.mem_of_getElem? hi)
      have e0 : Rf.stepW W ⟨kind, node, (i : Int)⟩ = Rf.evMsg W ⟨kind, node, (i : Int)⟩ m := by
        unfold Rf.stepW
        simp only
        rw [if_pos k4, if_pos (by omega), show ((i : Int)).toNat = i by omega, hi]
      rw [e0]
      have hel := List.length_eraseIdx_le W.net i
      rcases k4 with rfl | rfl | rfl
      · have e1 : Rf.evMsg W ⟨4, node, (i : Int)⟩ m = Rf.acts W (W.net.eraseIdx i) m.dest (fun x => Rf.receive x m) := by
          unfold Rf.evMsg
          simp
        rw [e1]
        by_cases hd : 1 ≤ m.dest ∧ m.dest ≤ (W.nodes.length : Int)
        · obtain ⟨k, x, hdk, hx⟩ := Rf.at_node hd
          rw [hdk, Rf.acts_some _ hx]
          exact happen_come R i node m B p W nv tv nc tc w h hi hT9 x k hdk hx (hf x (List.mem_of_getElem? hx)) hfm hN
        · rw [Rf.acts_none _ hd]
          exact happen_come_no i node m B p W nv tv nc tc w h hi hT9 (decide_eq_false hd)
      · have e1 : Rf.evMsg W ⟨5, node, (i : Int)⟩ m = Rf.acts W W.net m.dest (fun x => Rf.receive x m) := by
          unfold Rf.evMsg
          simp
        rw [e1]
        by_cases hd : 1 ≤ m.dest ∧ m.dest ≤ (W.nodes.length : Int)
        · obtain ⟨k, x, hdk, hx⟩ := Rf.at_node hd
          rw [hdk, Rf.acts_some _ hx]
          exact happen_copy R i node m B p W nv tv nc tc w h hi hT9 x k hdk hx (hf x (List.mem_of_getElem? hx)) hfm hN
        · rw [Rf.acts_none _ hd]
          exact happen_copy_no i node m B p W nv tv nc tc w h hi hT9 (decide_eq_false hd)
      · have e1 : Rf.evMsg W ⟨6, node, (i : Int)⟩ m = { W with net := Rf.trim (W.net.eraseIdx i) } := by
          unfold Rf.evMsg
          rw [Rf.trim_id (l := W.net.eraseIdx i) (by omega)]
          simp
        rw [e1]
        exact happen_drop i node m B p W nv tv nc tc w h hi hT9
    · have e0 : Rf.stepW W ⟨kind, node, pick⟩ = W := by
        unfold Rf.stepW
        simp only
        rw [if_pos k4]
        by_cases h1 : 0 ≤ pick
        · rw [if_pos h1, List.getElem?_eq_none (by omega)]
        · rw [if_neg h1]
      rw [e0]
      exact happen_nomsg kind node pick B p W nv tv nc tc w h (decide_eq_true k4) (decide_eq_false hp)
  · have e0 : Rf.stepW W ⟨kind, node, pick⟩ = Rf.evNode W ⟨kind, node, pick⟩ := by
      unfold Rf.stepW
      simp only
      rw [if_neg k4]
    rw [e0]
    have eT : Rf.trim W.net = W.net := Rf.trim_id hT
    by_cases k1 : kind = 1
    · subst k1
      have e1 : Rf.evNode W ⟨1, node, pick⟩ = Rf.acts W W.net node Rf.timeout := by unfold Rf.evNode; simp
      rw [e1]
      by_cases hd : 1 ≤ node ∧ node ≤ (W.nodes.length : Int)
      · obtain ⟨k, x, rfl, hx⟩ := Rf.at_node hd
        rw [Rf.acts_some _ hx]
        exact happen_timeout R k pick x B p W nv tv nc tc w h hx (hf x (List.mem_of_getElem? hx)) hN hT9
      · rw [Rf.acts_none _ hd, eT]
        exact happen_timeout_no node pick B p W nv tv nc tc w h (decide_eq_false hd)
    by_cases k2 : kind = 2
    · subst k2
      have e1 : Rf.evNode W ⟨2, node, pick⟩ = Rf.acts W W.net node Rf.beat := by unfold Rf.evNode; simp
      rw [e1]
      by_cases hd : 1 ≤ node ∧ node ≤ (W.nodes.length : Int)
      · obtain ⟨k, x, rfl, hx⟩ := Rf.at_node hd
        rw [Rf.acts_some _ hx]
        exact happen_beat R k pick x B p W nv tv nc tc w h hx (hf x (List.mem_of_getElem? hx)) hN hT9
      · rw [Rf.acts_none _ hd, eT]
        exact happen_beat_no node pick B p W nv tv nc tc w h (decide_eq_false hd)
    by_cases k3 : kind = 3
    · subst k3
      have e1 : Rf.evNode W ⟨3, node, pick⟩ = Rf.acts W W.net node (fun x => ((Rf.propose x pick).1, (Rf.propose x pick).2.1)) := by unfold Rf.evNode; simp
      rw [e1]
      by_cases hd : 1 ≤ node ∧ node ≤ (W.nodes.length : Int)
      · obtain ⟨k, x, rfl, hx⟩ := Rf.at_node hd
        rw [Rf.acts_some _ hx]
        exact happen_prop R k pick x B p W nv tv nc tc w h hx (hf x (List.mem_of_getElem? hx)) hN hT9
      · rw [Rf.acts_none _ hd, eT]
        exact happen_prop_no node pick B p W nv tv nc tc w h (decide_eq_false hd)
    by_cases k7 : kind = 7
    · subst k7
      have e1 : Rf.evNode W ⟨7, node, pick⟩ = Rf.acts W W.net node (fun x => (Rf.restart x, [])) := by unfold Rf.evNode; simp
      rw [e1]
      by_cases hd : 1 ≤ node ∧ node ≤ (W.nodes.length : Int)
      · obtain ⟨k, x, rfl, hx⟩ := Rf.at_node hd
        rw [Rf.acts_some _ hx]
        exact happen_rest R k pick x B p W nv tv nc tc w h hx (hf x (List.mem_of_getElem? hx)) hN hT9
      · rw [Rf.acts_none _ hd, eT]
        exact happen_rest_no node pick B p W nv tv nc tc w h (decide_eq_false hd)
    have e1 : Rf.evNode W ⟨kind, node, pick⟩ = W := by unfold Rf.evNode; simp [k1, k2, k3, k7]
    rw [e1]
    exact happen_none kind node pick B p W nv tv nc tc w h (decide_eq_false k4) k1 k2 k3 k7

end Go.Proofs.Ytneepoaimbnneaa.CL
