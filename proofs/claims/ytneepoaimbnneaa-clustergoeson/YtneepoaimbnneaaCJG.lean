/- Walks: carry (cluster), kind 6. Written by gen_cj.py. -/
import Derived.Test.YtneepoaimbnneaaCGG
namespace Go.Proofs.Ytneepoaimbnneaa.CL
open Go.RowKit
variable {A : Nat → Prop}

/-- nine cells at a place -/
def At9 (w : World) (g o : Nat) (v0 v1 v2 v3 v4 v5 v6 v7 v8 : Value) : Prop := w.cell? ⟨g, o, none⟩ = some v0 ∧ w.cell? ⟨g, o + 1, none⟩ = some v1 ∧ w.cell? ⟨g, o + 2, none⟩ = some v2 ∧ w.cell? ⟨g, o + 3, none⟩ = some v3 ∧ w.cell? ⟨g, o + 4, none⟩ = some v4 ∧ w.cell? ⟨g, o + 5, none⟩ = some v5 ∧ w.cell? ⟨g, o + 6, none⟩ = some v6 ∧ w.cell? ⟨g, o + 7, none⟩ = some v7 ∧ w.cell? ⟨g, o + 8, none⟩ = some v8
theorem At9.keep {w w' : World} {g o : Nat} {v0 v1 v2 v3 v4 v5 v6 v7 v8 : Value} (h : At9 w g o v0 v1 v2 v3 v4 v5 v6 v7 v8) (hb : w'.heap[g]? = w.heap[g]?) : At9 w' g o v0 v1 v2 v3 v4 v5 v6 v7 v8 := by
  obtain ⟨h0, h1, h2, h3, h4, h5, h6, h7, h8⟩ := h
  have k : ∀ j, w'.cell? ⟨g, j, none⟩ = w.cell? ⟨g, j, none⟩ := fun j => World.cell?_of_block (a := ⟨g, j, none⟩) hb
  exact ⟨(k _).trans h0, (k _).trans h1, (k _).trans h2, (k _).trans h3, (k _).trans h4, (k _).trans h5, (k _).trans h6, (k _).trans h7, (k _).trans h8⟩
theorem CW.msg {B : Nat} {w : World} {p : Nat} {W : Rf.Wd} {nv tv : Value} {nc tc : List Value} (h : CW A B w p W nv tv nc tc) {k : Nat} {m : Rf.Msg} (hx : W.net[k]? = some m) :
    ∃ (g off cap : Nat) (ia : Option Addr) (IL ic : Nat), tv = .slice (some ⟨g, off, none⟩) W.net.length cap ∧ GV (Fp A w p nv tv) w #[.int .i64 m.kind, .int .i64 m.frm, .int .i64 m.dest, .int .i64 m.term, .int .i64 m.index, .int .i64 m.logTerm, .int .i64 m.commit, .slice ia IL ic, .bool m.yes] m ∧
      At9 w g (off + k * 9) (.int .i64 m.kind) (.int .i64 m.frm) (.int .i64 m.dest) (.int .i64 m.term) (.int .i64 m.index) (.int .i64 m.logTerm) (.int .i64 m.commit) (.slice ia IL ic) (.bool m.yes) ∧ ∀ j, j < 9 → w.frozen? ⟨g, off + k * 9 + j, none⟩ = false := by
  have hk : k < W.net.length := (List.getElem?_eq_some_iff.1 hx).1
  obtain ⟨iv, hv, hc⟩ := h.tC.at hx
  obtain ⟨ia, ic, rfl, _⟩ := SC.shape hv
  rcases h.net.2 with ⟨_, q⟩ | ⟨g, off, cap, e, _⟩
  · omega
  · have hr := h.net
    rw [e] at hr
    obtain ⟨h1, h2, h3, h4, h5, h6⟩ := hr.parts
    have hcap : W.net.length * 9 ≤ cap * 9 := Nat.mul_le_mul_right _ h3
    have r : ∀ j u, (mcs m (.slice ia m.items.length ic))[j]? = some u → w.cell? ⟨g, off + k * 9 + j, none⟩ = some u := fun j u hj => by
      rw [Nat.add_assoc]
      exact h6 _ u (hc j u hj)
    have f : ∀ j, j < 9 → w.frozen? ⟨g, off + k * 9 + j, none⟩ = false := fun j hj => by
      rw [Nat.add_assoc]
      exact (h5 _ (by omega)).2
    exact ⟨g, off, cap, ia, _, ic, e, ⟨_, rfl, hv⟩, ⟨r 0 _ rfl, r 1 _ rfl, r 2 _ rfl, r 3 _ rfl, r 4 _ rfl, r 5 _ rfl, r 6 _ rfl, r 7 _ rfl, r 8 _ rfl⟩, f⟩
theorem MC.cut {P : Nat → Prop} {w : World} : ∀ {ms : List Rf.Msg} {cs : List Value}, MC P w ms cs → ∀ i, MC P w (ms.eraseIdx i) (cs.take (i * 9) ++ cs.drop ((i + 1) * 9))
  | [], cs, h, i => by rw [MC] at h; subst h; simp [MC]
  | m :: ms, cs, ⟨iv, rest, h1, h2, h3⟩, 0 => by
    subst h1
    have e : (0 + 1) * 9 = (mcs m iv).length := by simp [mcs]
    rw [e, Nat.zero_mul, List.take_zero, List.nil_append, List.drop_left]
    exact h3
  | m :: ms, cs, ⟨iv, rest, h1, h2, h3⟩, i + 1 => by
    subst h1
    have e1 : (i + 1) * 9 = (mcs m iv).length + i * 9 := by simp [mcs]; omega
    have e2 : (i + 1 + 1) * 9 = (mcs m iv).length + (i + 1) * 9 := by simp [mcs]; omega
    have := MC.cut h3 i
    rw [e2, List.drop_length_add_append]
    generalize List.drop ((i + 1) * 9) rest = tl at this ⊢
    rw [e1, List.take_length_add_append, List.append_assoc]
    exact ⟨iv, _, rfl, h2, this⟩
/-- the message has gone -/
def netOf (W : Rf.Wd) (kind : Int) (i : Nat) : List Rf.Msg := if kind = 5 then W.net else W.net.eraseIdx i
def carried (W : Rf.Wd) (kind : Int) (i : Nat) (m : Rf.Msg) : Rf.Wd :=
  if kind ≠ 6 ∧ 1 ≤ m.dest then
    match W.nodes[(m.dest - 1).toNat]? with
    | some x => { nodes := W.nodes.set (m.dest - 1).toNat (Rf.receive x m).1, net := netOf W kind i ++ (Rf.receive x m).2 }
    | none => { W with net := netOf W kind i }
  else { W with net := netOf W kind i }

end Go.Proofs.Ytneepoaimbnneaa.CL

namespace Go.Proofs.Ytneepoaimbnneaa.CL
open Go.RowKit
variable {A : Nat → Prop}

set_option maxHeartbeats 4000000 in
set_option maxRecDepth 100000 in
theorem carry_copy (B p i : Nat) (node : Int) (m : Rf.Msg) (W : Rf.Wd) (nv tv : Value) (nc tc : List Value) (w : World) (h : CW A B w p W nv tv nc tc) (hm : W.net[i]? = some m) (hT : W.net.length ≤ 1000) {Fit : Rf.Node → Prop} {FitM : Rf.Msg → Prop} (R : RC Fit FitM) (x : Rf.Node) (k : Nat) (hdk : m.dest = (k : Int) + 1) (hx : W.nodes[k]? = some x) (fx : Fit x) (fm : FitM m) (hN : W.nodes.length ≤ 1000) :
    Calls Try.prog 24 #[.pointer (some ⟨p, 0, none⟩), .agg #[.int .i64 5, .int .i64 node, .int .i64 (i : Int)]] w (PC A B p nv tv w { nodes := W.nodes.set k (Rf.receive x m).1, net := (W.net) ++ (Rf.receive x m).2 }) := by
  have hi : i < W.net.length := (List.getElem?_eq_some_iff.1 hm).1
  have HDK := hide hdk
  clear hdk
  obtain ⟨U, hU⟩ : ∃ U, U = w.alloc (.cells #[.int .i64 5, .int .i64 node, .int .i64 (i : Int)] 38) := ⟨_, rfl⟩
  have hbU : Below w.heap.size w U := by rw [hU]; exact below_new _ _
  have E0 : BK U w.heap.size 38 #[.int .i64 5, .int .i64 node, .int .i64 (i : Int)] := by rw [hU]; exact BK.new _ _ _
  have hu := h.below hbU
  have hszB := hide h.szB
  have hfe : Fp A U p nv tv w.heap.size := Fp.new h (Nat.le_refl _) E0.low
  clear h
  obtain ⟨g, off, cap, ia, IL, ic, rfl, hG, hat, -⟩ := CW.msg hu hm
  have bV := below_new U (.cells #[.int .i64 0, .int .i64 0, .int .i64 0, .int .i64 0, .int .i64 0, .int .i64 0, .int .i64 0, .slice none 0 0, .bool false] 40)
  obtain ⟨d0, d1, d2, d3, d4, d5, d6, d7, d8⟩ := hat
  obtain ⟨y0, y1, y2, y3, y4, y5, y6, y7, y8⟩ := At9.keep (w' := U.alloc (.cells #[.int .i64 0, .int .i64 0, .int .i64 0, .int .i64 0, .int .i64 0, .int .i64 0, .int .i64 0, .slice none 0 0, .bool false] 40)) ⟨d0, d1, d2, d3, d4, d5, d6, d7, d8⟩ (bV.block g (hu.net.lt g rfl).2)
  have q1 : U.cell? ⟨p, 1, none⟩ = some (.slice (some ⟨g, off, none⟩) W.net.length cap) := hu.blk.at rfl
  have q1' : (U.alloc (.cells #[.int .i64 0, .int .i64 0, .int .i64 0, .int .i64 0, .int .i64 0, .int .i64 0, .int .i64 0, .slice none 0 0, .bool false] 40)).cell? ⟨p, 1, none⟩ = some (.slice (some ⟨g, off, none⟩) W.net.length cap) := (hu.below bV).blk.at rfl
  have e2 : U.cell? ⟨w.heap.size, 2, none⟩ = some (.int .i64 (i : Int)) := E0.at rfl
  have e2' : (U.alloc (.cells #[.int .i64 0, .int .i64 0, .int .i64 0, .int .i64 0, .int .i64 0, .int .i64 0, .int .i64 0, .slice none 0 0, .bool false] 40)).cell? ⟨w.heap.size, 2, none⟩ = some (.int .i64 (i : Int)) := (E0.keep bV).at rfl
  have hi' : (i : Int) < (W.net.length : Int) := by omega
  have hle := hu.net.parts.2.2.1
  have b1 : Below U.heap.size U (U.alloc (.cells #[.int .i64 m.kind, .int .i64 m.frm, .int .i64 m.dest, .int .i64 m.term, .int .i64 m.index, .int .i64 m.logTerm, .int .i64 m.commit, .slice ia IL ic, .bool m.yes] 40)).drew := (below_new U _).drew
  have H1 := hide (hu.below b1)
  have E1 := hide (E0.keep b1)
  have M1 : Hid (BK (U.alloc (.cells #[.int .i64 m.kind, .int .i64 m.frm, .int .i64 m.dest, .int .i64 m.term, .int .i64 m.index, .int .i64 m.logTerm, .int .i64 m.commit, .slice ia IL ic, .bool m.yes] 40)).drew U.heap.size 40 #[.int .i64 m.kind, .int .i64 m.frm, .int .i64 m.dest, .int .i64 m.term, .int .i64 m.index, .int .i64 m.logTerm, .int .i64 m.commit, .slice ia IL ic, .bool m.yes]) := hide (BK.new U _ _)
  have hfp : ∀ b, Fp A U p nv (.slice (some ⟨g, off, none⟩) W.net.length cap) b → Fp A (U.alloc (.cells #[.int .i64 m.kind, .int .i64 m.frm, .int .i64 m.dest, .int .i64 m.term, .int .i64 m.index, .int .i64 m.logTerm, .int .i64 m.commit, .slice ia IL ic, .bool m.yes] 40)).drew p nv (.slice (some ⟨g, off, none⟩) W.net.length cap) b ∧ (U.alloc (.cells #[.int .i64 m.kind, .int .i64 m.frm, .int .i64 m.dest, .int .i64 m.term, .int .i64 m.index, .int .i64 m.logTerm, .int .i64 m.commit, .slice ia IL ic, .bool m.yes] 40)).drew.heap[b]? = U.heap[b]? := fun b hb => ⟨⟨Nat.lt_of_lt_of_le hb.1 b1.size, hb.2⟩, b1.block b hb.1⟩
  have G1 := hide (GV.keep hfp hG)
  have FM : Hid (Fp A (U.alloc (.cells #[.int .i64 m.kind, .int .i64 m.frm, .int .i64 m.dest, .int .i64 m.term, .int .i64 m.index, .int .i64 m.logTerm, .int .i64 m.commit, .slice ia IL ic, .bool m.yes] 40)).drew p nv (.slice (some ⟨g, off, none⟩) W.net.length cap) U.heap.size) := hide (Fp.new hu (Nat.le_refl _) (unhide M1).low)
  have FE := hide (hfp _ hfe).1
  have B1 := hide (below_via hbU b1)
  have R1 : Hid (Frm A p w nv (.slice (some ⟨g, off, none⟩) W.net.length cap) (U.alloc (.cells #[.int .i64 m.kind, .int .i64 m.frm, .int .i64 m.dest, .int .i64 m.term, .int .i64 m.index, .int .i64 m.logTerm, .int .i64 m.commit, .slice ia IL ic, .bool m.yes] 40)).drew nv (.slice (some ⟨g, off, none⟩) W.net.length cap)) := hide (Frm.below (unhide B1))
  clear hu bV b1 hfp hG hbU E0 hfe
  go_enter Try.func24, Try.ntmps24
  go_upto_region 1 with fail
  rw [← hU]
  clear hU
  go_region
  clear d0 d1 d2 d3 d4 d5 d6 d7 d8 y0 y1 y2 y3 y4 y5 y6 y7 y8 q1 q1' e2 e2'
  generalize U.heap.size = bm at M1 FM ⊢
  generalize (U.alloc (.cells #[.int .i64 m.kind, .int .i64 m.frm, .int .i64 m.dest, .int .i64 m.term, .int .i64 m.index, .int .i64 m.logTerm, .int .i64 m.commit, .slice ia IL ic, .bool m.yes] 40)).drew = w1 at H1 E1 M1 G1 FM FE B1 R1 ⊢
  have e0 : w1.cell? ⟨w.heap.size, 0, none⟩ = some (.int .i64 5) := (unhide E1).at rfl
  have e2 : w1.cell? ⟨w.heap.size, 2, none⟩ = some (.int .i64 (i : Int)) := (unhide E1).at rfl
  have B2 := hide ((unhide B1).mono (unhide hszB))
  have H2 := H1
  have M2 := M1
  have G2 := G1
  have R2 := R1
  have c2 : w1.cell? ⟨bm, 2, none⟩ = some (.int .i64 ((k : Int) + 1)) := by rw [← unhide HDK]; exact (unhide M2).at rfl
  obtain ⟨na, NL, ncap, -, -, -, hNV, -, hNL, -, -, -, -, q0, -, -, -⟩ := (unhide H2).tell
  have hk : k < W.nodes.length := (List.getElem?_eq_some_iff.1 hx).1
  have CN := hide (hasNode_any p NL ncap na ((k : Int) + 1) w1 q0)
  have dk : decide (1 ≤ (k : Int) + 1 ∧ (k : Int) + 1 ≤ (NL : Int)) = true := decide_eq_true ⟨by omega, by have e : NL = W.nodes.length := unhide hNL; omega⟩
  rw [dk] at CN
  have hlm : Rf.receive_len x m = Rf.receive_len x m := rfl
  have CA := hide (act_recv (Rf.receive x m) B p k bm x { W with net := W.net } nv (.slice (some ⟨g, off, none⟩) W.net.length cap) _ _ w1 (unhide H2) hx hN (by exact hT) (by have := Rf.receive_len x m; omega) (fun v hv => recv_any (Fp A w1 p nv (.slice (some ⟨g, off, none⟩) W.net.length cap)) x m (Rf.receive x m) v bm ia IL ic w1 hv (fun b hb => hb.1) (unhide M2) (fun w0 hb0 hv0 hP0 => R.receive _ x m v _ w0 hv0 (GV.keep (fun b hb => ⟨hb, hb0.block b hb.1⟩) (unhide G2)) hP0 fx fm)))
  clear hlm dk
  go_wp2_with (first
    | (go_at_call 19; refine (unhide CN).mono ?_; rintro e w9 ⟨rfl, rfl⟩)
    | (go_at_call 20; refine (unhide CA).mono ?_; rintro e w9 ⟨rfl, nv9, tv9, nc9, tc9, hF, hb, hr⟩))
  go_wp2
  go_end0
  exact ⟨rfl, nv9, tv9, nc9, tc9, hF, (unhide B2).trans hb, (unhide R2).trans hr⟩

end Go.Proofs.Ytneepoaimbnneaa.CL

namespace Go.Proofs.Ytneepoaimbnneaa.CL
open Go.RowKit
variable {A : Nat → Prop}

set_option maxHeartbeats 4000000 in
set_option maxRecDepth 100000 in
theorem carry_copy_no (B p i : Nat) (node : Int) (m : Rf.Msg) (W : Rf.Wd) (nv tv : Value) (nc tc : List Value) (w : World) (h : CW A B w p W nv tv nc tc) (hm : W.net[i]? = some m) (_hT : W.net.length ≤ 1000) (hno : decide (1 ≤ m.dest ∧ m.dest ≤ (W.nodes.length : Int)) = false) :
    Calls Try.prog 24 #[.pointer (some ⟨p, 0, none⟩), .agg #[.int .i64 5, .int .i64 node, .int .i64 (i : Int)]] w (PC A B p nv tv w { W with net := W.net }) := by
  have hi : i < W.net.length := (List.getElem?_eq_some_iff.1 hm).1
  have HNO := hide hno
  clear hno
  obtain ⟨U, hU⟩ : ∃ U, U = w.alloc (.cells #[.int .i64 5, .int .i64 node, .int .i64 (i : Int)] 38) := ⟨_, rfl⟩
  have hbU : Below w.heap.size w U := by rw [hU]; exact below_new _ _
  have E0 : BK U w.heap.size 38 #[.int .i64 5, .int .i64 node, .int .i64 (i : Int)] := by rw [hU]; exact BK.new _ _ _
  have hu := h.below hbU
  have hszB := hide h.szB
  have hfe : Fp A U p nv tv w.heap.size := Fp.new h (Nat.le_refl _) E0.low
  clear h
  obtain ⟨g, off, cap, ia, IL, ic, rfl, hG, hat, -⟩ := CW.msg hu hm
  have bV := below_new U (.cells #[.int .i64 0, .int .i64 0, .int .i64 0, .int .i64 0, .int .i64 0, .int .i64 0, .int .i64 0, .slice none 0 0, .bool false] 40)
  obtain ⟨d0, d1, d2, d3, d4, d5, d6, d7, d8⟩ := hat
  obtain ⟨y0, y1, y2, y3, y4, y5, y6, y7, y8⟩ := At9.keep (w' := U.alloc (.cells #[.int .i64 0, .int .i64 0, .int .i64 0, .int .i64 0, .int .i64 0, .int .i64 0, .int .i64 0, .slice none 0 0, .bool false] 40)) ⟨d0, d1, d2, d3, d4, d5, d6, d7, d8⟩ (bV.block g (hu.net.lt g rfl).2)
  have q1 : U.cell? ⟨p, 1, none⟩ = some (.slice (some ⟨g, off, none⟩) W.net.length cap) := hu.blk.at rfl
  have q1' : (U.alloc (.cells #[.int .i64 0, .int .i64 0, .int .i64 0, .int .i64 0, .int .i64 0, .int .i64 0, .int .i64 0, .slice none 0 0, .bool false] 40)).cell? ⟨p, 1, none⟩ = some (.slice (some ⟨g, off, none⟩) W.net.length cap) := (hu.below bV).blk.at rfl
  have e2 : U.cell? ⟨w.heap.size, 2, none⟩ = some (.int .i64 (i : Int)) := E0.at rfl
  have e2' : (U.alloc (.cells #[.int .i64 0, .int .i64 0, .int .i64 0, .int .i64 0, .int .i64 0, .int .i64 0, .int .i64 0, .slice none 0 0, .bool false] 40)).cell? ⟨w.heap.size, 2, none⟩ = some (.int .i64 (i : Int)) := (E0.keep bV).at rfl
  have hi' : (i : Int) < (W.net.length : Int) := by omega
  have hle := hu.net.parts.2.2.1
  have b1 : Below U.heap.size U (U.alloc (.cells #[.int .i64 m.kind, .int .i64 m.frm, .int .i64 m.dest, .int .i64 m.term, .int .i64 m.index, .int .i64 m.logTerm, .int .i64 m.commit, .slice ia IL ic, .bool m.yes] 40)).drew := (below_new U _).drew
  have H1 := hide (hu.below b1)
  have E1 := hide (E0.keep b1)
  have M1 : Hid (BK (U.alloc (.cells #[.int .i64 m.kind, .int .i64 m.frm, .int .i64 m.dest, .int .i64 m.term, .int .i64 m.index, .int .i64 m.logTerm, .int .i64 m.commit, .slice ia IL ic, .bool m.yes] 40)).drew U.heap.size 40 #[.int .i64 m.kind, .int .i64 m.frm, .int .i64 m.dest, .int .i64 m.term, .int .i64 m.index, .int .i64 m.logTerm, .int .i64 m.commit, .slice ia IL ic, .bool m.yes]) := hide (BK.new U _ _)
  have hfp : ∀ b, Fp A U p nv (.slice (some ⟨g, off, none⟩) W.net.length cap) b → Fp A (U.alloc (.cells #[.int .i64 m.kind, .int .i64 m.frm, .int .i64 m.dest, .int .i64 m.term, .int .i64 m.index, .int .i64 m.logTerm, .int .i64 m.commit, .slice ia IL ic, .bool m.yes] 40)).drew p nv (.slice (some ⟨g, off, none⟩) W.net.length cap) b ∧ (U.alloc (.cells #[.int .i64 m.kind, .int .i64 m.frm, .int .i64 m.dest, .int .i64 m.term, .int .i64 m.index, .int .i64 m.logTerm, .int .i64 m.commit, .slice ia IL ic, .bool m.yes] 40)).drew.heap[b]? = U.heap[b]? := fun b hb => ⟨⟨Nat.lt_of_lt_of_le hb.1 b1.size, hb.2⟩, b1.block b hb.1⟩
  have G1 := hide (GV.keep hfp hG)
  have FM : Hid (Fp A (U.alloc (.cells #[.int .i64 m.kind, .int .i64 m.frm, .int .i64 m.dest, .int .i64 m.term, .int .i64 m.index, .int .i64 m.logTerm, .int .i64 m.commit, .slice ia IL ic, .bool m.yes] 40)).drew p nv (.slice (some ⟨g, off, none⟩) W.net.length cap) U.heap.size) := hide (Fp.new hu (Nat.le_refl _) (unhide M1).low)
  have FE := hide (hfp _ hfe).1
  have B1 := hide (below_via hbU b1)
  have R1 : Hid (Frm A p w nv (.slice (some ⟨g, off, none⟩) W.net.length cap) (U.alloc (.cells #[.int .i64 m.kind, .int .i64 m.frm, .int .i64 m.dest, .int .i64 m.term, .int .i64 m.index, .int .i64 m.logTerm, .int .i64 m.commit, .slice ia IL ic, .bool m.yes] 40)).drew nv (.slice (some ⟨g, off, none⟩) W.net.length cap)) := hide (Frm.below (unhide B1))
  clear hu bV b1 hfp hG hbU E0 hfe
  go_enter Try.func24, Try.ntmps24
  go_upto_region 1 with fail
  rw [← hU]
  clear hU
  go_region
  clear d0 d1 d2 d3 d4 d5 d6 d7 d8 y0 y1 y2 y3 y4 y5 y6 y7 y8 q1 q1' e2 e2'
  generalize U.heap.size = bm at M1 FM ⊢
  generalize (U.alloc (.cells #[.int .i64 m.kind, .int .i64 m.frm, .int .i64 m.dest, .int .i64 m.term, .int .i64 m.index, .int .i64 m.logTerm, .int .i64 m.commit, .slice ia IL ic, .bool m.yes] 40)).drew = w1 at H1 E1 M1 G1 FM FE B1 R1 ⊢
  have e0 : w1.cell? ⟨w.heap.size, 0, none⟩ = some (.int .i64 5) := (unhide E1).at rfl
  have e2 : w1.cell? ⟨w.heap.size, 2, none⟩ = some (.int .i64 (i : Int)) := (unhide E1).at rfl
  have B2 := hide ((unhide B1).mono (unhide hszB))
  have H2 := H1
  have M2 := M1
  have G2 := G1
  have R2 := R1
  have c2 : w1.cell? ⟨bm, 2, none⟩ = some (.int .i64 m.dest) := (unhide M2).at rfl
  obtain ⟨na, NL, ncap, -, -, -, hNV, -, hNL, -, -, -, -, q0, -, -, -⟩ := (unhide H2).tell
  have CN := hide (hasNode_any p NL ncap na m.dest w1 q0)
  have dk : decide (1 ≤ m.dest ∧ m.dest ≤ (NL : Int)) = false := by have e : NL = W.nodes.length := unhide hNL; rw [e]; exact unhide HNO
  rw [dk] at CN
  clear dk
  go_wp2_with (go_at_call 19; refine (unhide CN).mono ?_; rintro e w9 ⟨rfl, rfl⟩)
  go_wp2
  go_end0
  exact ⟨rfl, _, _, _, _, unhide H2, unhide B2, unhide R2⟩

end Go.Proofs.Ytneepoaimbnneaa.CL

namespace Go.Proofs.Ytneepoaimbnneaa.CL
open Go.RowKit
variable {A : Nat → Prop}

set_option maxHeartbeats 4000000 in
set_option maxRecDepth 100000 in
theorem carry_come (B p i : Nat) (node : Int) (m : Rf.Msg) (W : Rf.Wd) (nv tv : Value) (nc tc : List Value) (w : World) (h : CW A B w p W nv tv nc tc) (hm : W.net[i]? = some m) (hT : W.net.length ≤ 1000) {Fit : Rf.Node → Prop} {FitM : Rf.Msg → Prop} (R : RC Fit FitM) (x : Rf.Node) (k : Nat) (hdk : m.dest = (k : Int) + 1) (hx : W.nodes[k]? = some x) (fx : Fit x) (fm : FitM m) (hN : W.nodes.length ≤ 1000) :
    Calls Try.prog 24 #[.pointer (some ⟨p, 0, none⟩), .agg #[.int .i64 4, .int .i64 node, .int .i64 (i : Int)]] w (PC A B p nv tv w { nodes := W.nodes.set k (Rf.receive x m).1, net := (W.net.eraseIdx i) ++ (Rf.receive x m).2 }) := by
  have hi : i < W.net.length := (List.getElem?_eq_some_iff.1 hm).1
  have HDK := hide hdk
  clear hdk
  obtain ⟨U, hU⟩ : ∃ U, U = w.alloc (.cells #[.int .i64 4, .int .i64 node, .int .i64 (i : Int)] 38) := ⟨_, rfl⟩
  have hbU : Below w.heap.size w U := by rw [hU]; exact below_new _ _
  have E0 : BK U w.heap.size 38 #[.int .i64 4, .int .i64 node, .int .i64 (i : Int)] := by rw [hU]; exact BK.new _ _ _
  have hu := h.below hbU
  have hszB := hide h.szB
  have hfe : Fp A U p nv tv w.heap.size := Fp.new h (Nat.le_refl _) E0.low
  clear h
  obtain ⟨g, off, cap, ia, IL, ic, rfl, hG, hat, -⟩ := CW.msg hu hm
  have bV := below_new U (.cells #[.int .i64 0, .int .i64 0, .int .i64 0, .int .i64 0, .int .i64 0, .int .i64 0, .int .i64 0, .slice none 0 0, .bool false] 40)
  obtain ⟨d0, d1, d2, d3, d4, d5, d6, d7, d8⟩ := hat
  obtain ⟨y0, y1, y2, y3, y4, y5, y6, y7, y8⟩ := At9.keep (w' := U.alloc (.cells #[.int .i64 0, .int .i64 0, .int .i64 0, .int .i64 0, .int .i64 0, .int .i64 0, .int .i64 0, .slice none 0 0, .bool false] 40)) ⟨d0, d1, d2, d3, d4, d5, d6, d7, d8⟩ (bV.block g (hu.net.lt g rfl).2)
  have q1 : U.cell? ⟨p, 1, none⟩ = some (.slice (some ⟨g, off, none⟩) W.net.length cap) := hu.blk.at rfl
  have q1' : (U.alloc (.cells #[.int .i64 0, .int .i64 0, .int .i64 0, .int .i64 0, .int .i64 0, .int .i64 0, .int .i64 0, .slice none 0 0, .bool false] 40)).cell? ⟨p, 1, none⟩ = some (.slice (some ⟨g, off, none⟩) W.net.length cap) := (hu.below bV).blk.at rfl
  have e2 : U.cell? ⟨w.heap.size, 2, none⟩ = some (.int .i64 (i : Int)) := E0.at rfl
  have e2' : (U.alloc (.cells #[.int .i64 0, .int .i64 0, .int .i64 0, .int .i64 0, .int .i64 0, .int .i64 0, .int .i64 0, .slice none 0 0, .bool false] 40)).cell? ⟨w.heap.size, 2, none⟩ = some (.int .i64 (i : Int)) := (E0.keep bV).at rfl
  have hi' : (i : Int) < (W.net.length : Int) := by omega
  have hle := hu.net.parts.2.2.1
  have b1 : Below U.heap.size U (U.alloc (.cells #[.int .i64 m.kind, .int .i64 m.frm, .int .i64 m.dest, .int .i64 m.term, .int .i64 m.index, .int .i64 m.logTerm, .int .i64 m.commit, .slice ia IL ic, .bool m.yes] 40)).drew := (below_new U _).drew
  have H1 := hide (hu.below b1)
  have E1 := hide (E0.keep b1)
  have M1 : Hid (BK (U.alloc (.cells #[.int .i64 m.kind, .int .i64 m.frm, .int .i64 m.dest, .int .i64 m.term, .int .i64 m.index, .int .i64 m.logTerm, .int .i64 m.commit, .slice ia IL ic, .bool m.yes] 40)).drew U.heap.size 40 #[.int .i64 m.kind, .int .i64 m.frm, .int .i64 m.dest, .int .i64 m.term, .int .i64 m.index, .int .i64 m.logTerm, .int .i64 m.commit, .slice ia IL ic, .bool m.yes]) := hide (BK.new U _ _)
  have hfp : ∀ b, Fp A U p nv (.slice (some ⟨g, off, none⟩) W.net.length cap) b → Fp A (U.alloc (.cells #[.int .i64 m.kind, .int .i64 m.frm, .int .i64 m.dest, .int .i64 m.term, .int .i64 m.index, .int .i64 m.logTerm, .int .i64 m.commit, .slice ia IL ic, .bool m.yes] 40)).drew p nv (.slice (some ⟨g, off, none⟩) W.net.length cap) b ∧ (U.alloc (.cells #[.int .i64 m.kind, .int .i64 m.frm, .int .i64 m.dest, .int .i64 m.term, .int .i64 m.index, .int .i64 m.logTerm, .int .i64 m.commit, .slice ia IL ic, .bool m.yes] 40)).drew.heap[b]? = U.heap[b]? := fun b hb => ⟨⟨Nat.lt_of_lt_of_le hb.1 b1.size, hb.2⟩, b1.block b hb.1⟩
  have G1 := hide (GV.keep hfp hG)
  have FM : Hid (Fp A (U.alloc (.cells #[.int .i64 m.kind, .int .i64 m.frm, .int .i64 m.dest, .int .i64 m.term, .int .i64 m.index, .int .i64 m.logTerm, .int .i64 m.commit, .slice ia IL ic, .bool m.yes] 40)).drew p nv (.slice (some ⟨g, off, none⟩) W.net.length cap) U.heap.size) := hide (Fp.new hu (Nat.le_refl _) (unhide M1).low)
  have FE := hide (hfp _ hfe).1
  have B1 := hide (below_via hbU b1)
  have R1 : Hid (Frm A p w nv (.slice (some ⟨g, off, none⟩) W.net.length cap) (U.alloc (.cells #[.int .i64 m.kind, .int .i64 m.frm, .int .i64 m.dest, .int .i64 m.term, .int .i64 m.index, .int .i64 m.logTerm, .int .i64 m.commit, .slice ia IL ic, .bool m.yes] 40)).drew nv (.slice (some ⟨g, off, none⟩) W.net.length cap)) := hide (Frm.below (unhide B1))
  clear hu bV b1 hfp hG hbU E0 hfe
  go_enter Try.func24, Try.ntmps24
  go_upto_region 1 with fail
  rw [← hU]
  clear hU
  go_region
  clear d0 d1 d2 d3 d4 d5 d6 d7 d8 y0 y1 y2 y3 y4 y5 y6 y7 y8 q1 q1' e2 e2'
  generalize U.heap.size = bm at M1 FM ⊢
  generalize (U.alloc (.cells #[.int .i64 m.kind, .int .i64 m.frm, .int .i64 m.dest, .int .i64 m.term, .int .i64 m.index, .int .i64 m.logTerm, .int .i64 m.commit, .slice ia IL ic, .bool m.yes] 40)).drew = w1 at H1 E1 M1 G1 FM FE B1 R1 ⊢
  have e0 : w1.cell? ⟨w.heap.size, 0, none⟩ = some (.int .i64 4) := (unhide E1).at rfl
  have e2 : w1.cell? ⟨w.heap.size, 2, none⟩ = some (.int .i64 (i : Int)) := (unhide E1).at rfl
  have q1 : w1.cell? ⟨p, 1, none⟩ = some (.slice (some ⟨g, off, none⟩) W.net.length cap) := (unhide H1).blk.at rfl
  have z1 : w1.frozen? ⟨p, 1, none⟩ = false := (unhide H1).blk.thaw _
  obtain ⟨j, hj⟩ : ∃ j, j = i + 1 := ⟨_, rfl⟩
  have ej : IntKind.i64.wrap ((i : Int) + 1) = (j : Int) := by rw [hj]; exact wrap_i64 (by omega) (by omega)
  have CD := hide (delete_any B g off cap W.net.length i tc w1.drew ((unhide H1).net.below (below_drew _)) (unhide H1).tC.one hi hT j hj)
  have HJ := hide hj
  clear hj
  go_wp2_with fail
  go_cut [] from 5 (fun wx => Hid (∃ nc tc, CW A B wx p { W with net := W.net.eraseIdx i } nv (.slice (some ⟨g, off, none⟩) (W.net.length - 1) cap) nc tc) ∧ Hid (BK wx w.heap.size 38 #[.int .i64 4, .int .i64 node, .int .i64 (i : Int)]) ∧ Hid (BK wx bm 40 #[.int .i64 m.kind, .int .i64 m.frm, .int .i64 m.dest, .int .i64 m.term, .int .i64 m.index, .int .i64 m.logTerm, .int .i64 m.commit, .slice ia IL ic, .bool m.yes]) ∧ Hid (GV (Fp A wx p nv (.slice (some ⟨g, off, none⟩) (W.net.length - 1) cap)) wx #[.int .i64 m.kind, .int .i64 m.frm, .int .i64 m.dest, .int .i64 m.term, .int .i64 m.index, .int .i64 m.logTerm, .int .i64 m.commit, .slice ia IL ic, .bool m.yes] m) ∧ Hid (Fp A wx p nv (.slice (some ⟨g, off, none⟩) (W.net.length - 1) cap) bm) ∧ Hid (Below B w wx) ∧ Hid (Frm A p w nv (.slice (some ⟨g, off, none⟩) W.net.length cap) wx nv (.slice (some ⟨g, off, none⟩) (W.net.length - 1) cap)))
  case first =>
    go_region_with (go_at_call 33; refine (unhide CD).mono ?_; rintro e w2 ⟨rfl, hro, hg⟩; have q2 : BK w2 p 56 #[nv, .slice (some ⟨g, off, none⟩) W.net.length cap] := (hg.block p (unhide H1).lo (fun e => (unhide H1).pt (by cases e; rfl))).trans (unhide H1).blk; have q3 := q2.at (j := 1) rfl; have q4 := q2.thaw 1)
    all_goals go_wp2_with fail
    all_goals go_meet
    all_goals
      have hg0 : w1.grownBy w2 (some g) := grown_trans (grown_below' (below_drew w1) _) hg
      have hc := MC.cut (unhide H1).tC i
      rw [← unhide HJ] at hc
      have hel : (W.net.eraseIdx i).length = W.net.length - 1 := List.length_eraseIdx_of_lt hi
      have H2 := (unhide H1).setNet (T := W.net.eraseIdx i) (tv' := (.slice (some ⟨g, off, none⟩) (W.net.length - 1) cap)) hg0 (by rw [hel]; exact hro) (.inl rfl) hc
      have hs := grown_set w2 ⟨p, 1, none⟩ (.slice (some ⟨g, off, none⟩) (W.net.length - 1) cap)
      have k2 : ∀ b, Fp A w1 p nv (.slice (some ⟨g, off, none⟩) W.net.length cap) b → Fp A (w2.setCell ⟨p, 1, none⟩ (.slice (some ⟨g, off, none⟩) (W.net.length - 1) cap)) p nv (.slice (some ⟨g, off, none⟩) (W.net.length - 1) cap) b ∧ (w2.setCell ⟨p, 1, none⟩ (.slice (some ⟨g, off, none⟩) (W.net.length - 1) cap)).heap[b]? = w1.heap[b]? := fun b hb => by
        have l2 := Nat.lt_of_lt_of_le hb.1 hg0.size
        exact ⟨⟨Nat.lt_of_lt_of_le l2 hs.size, hb.2⟩, (hs.block b l2 (fun e => hb.2.1 (by cases e; rfl))).trans (hg0.block b hb.1 (fun e => hb.2.2.2.1 (by cases e; rfl)))⟩
      exact ⟨hide ⟨_, _, H2⟩, hide ((k2 _ (unhide FE)).2.trans (unhide E1)), hide ((k2 bm (unhide FM)).2.trans (unhide M1)), hide (GV.keep k2 (unhide G1)), hide (k2 bm (unhide FM)).1, hide ((((unhide B1).mono (unhide hszB)).trans ((Below.refl B w1).grown hg0 (unhide H1).szB fun b hb => by cases hb; exact ((unhide H1).net.lt g rfl).1)).setCell (unhide H1).low _), hide ((unhide R1).trans k2)⟩
  case rest =>
  obtain ⟨H2, E2, M2, G2, F2, B2, R2⟩ := hcut
  clear q1 z1 e0 e2 CD H1 E1 M1 G1 FM FE B1 R1
  have e0 : wc.cell? ⟨w.heap.size, 0, none⟩ = some (.int .i64 4) := (unhide E2).at rfl
  obtain ⟨nc', tc', h2⟩ := unhide H2
  clear H2
  have H2 := hide h2
  clear h2
  have c2 : wc.cell? ⟨bm, 2, none⟩ = some (.int .i64 ((k : Int) + 1)) := by rw [← unhide HDK]; exact (unhide M2).at rfl
  obtain ⟨na, NL, ncap, -, -, -, hNV, -, hNL, -, -, -, -, q0, -, -, -⟩ := (unhide H2).tell
  have hk : k < W.nodes.length := (List.getElem?_eq_some_iff.1 hx).1
  have CN := hide (hasNode_any p NL ncap na ((k : Int) + 1) wc q0)
  have dk : decide (1 ≤ (k : Int) + 1 ∧ (k : Int) + 1 ≤ (NL : Int)) = true := decide_eq_true ⟨by omega, by have e : NL = W.nodes.length := unhide hNL; omega⟩
  rw [dk] at CN
  have hlm : Rf.receive_len x m = Rf.receive_len x m := rfl
  have CA := hide (act_recv (Rf.receive x m) B p k bm x { W with net := W.net.eraseIdx i } nv (.slice (some ⟨g, off, none⟩) (W.net.length - 1) cap) _ _ wc (unhide H2) hx hN (by show (W.net.eraseIdx i).length ≤ 1000; have := List.length_eraseIdx_le W.net i; omega) (by have := Rf.receive_len x m; omega) (fun v hv => recv_any (Fp A wc p nv (.slice (some ⟨g, off, none⟩) (W.net.length - 1) cap)) x m (Rf.receive x m) v bm ia IL ic wc hv (fun b hb => hb.1) (unhide M2) (fun w0 hb0 hv0 hP0 => R.receive _ x m v _ w0 hv0 (GV.keep (fun b hb => ⟨hb, hb0.block b hb.1⟩) (unhide G2)) hP0 fx fm)))
  clear hlm dk
  go_wp2_with (first
    | (go_at_call 19; refine (unhide CN).mono ?_; rintro e w9 ⟨rfl, rfl⟩)
    | (go_at_call 20; refine (unhide CA).mono ?_; rintro e w9 ⟨rfl, nv9, tv9, nc9, tc9, hF, hb, hr⟩))
  go_wp2
  go_end0
  exact ⟨rfl, nv9, tv9, nc9, tc9, hF, (unhide B2).trans hb, (unhide R2).trans hr⟩

end Go.Proofs.Ytneepoaimbnneaa.CL

namespace Go.Proofs.Ytneepoaimbnneaa.CL
open Go.RowKit
variable {A : Nat → Prop}

set_option maxHeartbeats 4000000 in
set_option maxRecDepth 100000 in
theorem carry_come_no (B p i : Nat) (node : Int) (m : Rf.Msg) (W : Rf.Wd) (nv tv : Value) (nc tc : List Value) (w : World) (h : CW A B w p W nv tv nc tc) (hm : W.net[i]? = some m) (hT : W.net.length ≤ 1000) (hno : decide (1 ≤ m.dest ∧ m.dest ≤ (W.nodes.length : Int)) = false) :
    Calls Try.prog 24 #[.pointer (some ⟨p, 0, none⟩), .agg #[.int .i64 4, .int .i64 node, .int .i64 (i : Int)]] w (PC A B p nv tv w { W with net := W.net.eraseIdx i }) := by
  have hi : i < W.net.length := (List.getElem?_eq_some_iff.1 hm).1
  have HNO := hide hno
  clear hno
  obtain ⟨U, hU⟩ : ∃ U, U = w.alloc (.cells #[.int .i64 4, .int .i64 node, .int .i64 (i : Int)] 38) := ⟨_, rfl⟩
  have hbU : Below w.heap.size w U := by rw [hU]; exact below_new _ _
  have E0 : BK U w.heap.size 38 #[.int .i64 4, .int .i64 node, .int .i64 (i : Int)] := by rw [hU]; exact BK.new _ _ _
  have hu := h.below hbU
  have hszB := hide h.szB
  have hfe : Fp A U p nv tv w.heap.size := Fp.new h (Nat.le_refl _) E0.low
  clear h
  obtain ⟨g, off, cap, ia, IL, ic, rfl, hG, hat, -⟩ := CW.msg hu hm
  have bV := below_new U (.cells #[.int .i64 0, .int .i64 0, .int .i64 0, .int .i64 0, .int .i64 0, .int .i64 0, .int .i64 0, .slice none 0 0, .bool false] 40)
  obtain ⟨d0, d1, d2, d3, d4, d5, d6, d7, d8⟩ := hat
  obtain ⟨y0, y1, y2, y3, y4, y5, y6, y7, y8⟩ := At9.keep (w' := U.alloc (.cells #[.int .i64 0, .int .i64 0, .int .i64 0, .int .i64 0, .int .i64 0, .int .i64 0, .int .i64 0, .slice none 0 0, .bool false] 40)) ⟨d0, d1, d2, d3, d4, d5, d6, d7, d8⟩ (bV.block g (hu.net.lt g rfl).2)
  have q1 : U.cell? ⟨p, 1, none⟩ = some (.slice (some ⟨g, off, none⟩) W.net.length cap) := hu.blk.at rfl
  have q1' : (U.alloc (.cells #[.int .i64 0, .int .i64 0, .int .i64 0, .int .i64 0, .int .i64 0, .int .i64 0, .int .i64 0, .slice none 0 0, .bool false] 40)).cell? ⟨p, 1, none⟩ = some (.slice (some ⟨g, off, none⟩) W.net.length cap) := (hu.below bV).blk.at rfl
  have e2 : U.cell? ⟨w.heap.size, 2, none⟩ = some (.int .i64 (i : Int)) := E0.at rfl
  have e2' : (U.alloc (.cells #[.int .i64 0, .int .i64 0, .int .i64 0, .int .i64 0, .int .i64 0, .int .i64 0, .int .i64 0, .slice none 0 0, .bool false] 40)).cell? ⟨w.heap.size, 2, none⟩ = some (.int .i64 (i : Int)) := (E0.keep bV).at rfl
  have hi' : (i : Int) < (W.net.length : Int) := by omega
  have hle := hu.net.parts.2.2.1
  have b1 : Below U.heap.size U (U.alloc (.cells #[.int .i64 m.kind, .int .i64 m.frm, .int .i64 m.dest, .int .i64 m.term, .int .i64 m.index, .int .i64 m.logTerm, .int .i64 m.commit, .slice ia IL ic, .bool m.yes] 40)).drew := (below_new U _).drew
  have H1 := hide (hu.below b1)
  have E1 := hide (E0.keep b1)
  have M1 : Hid (BK (U.alloc (.cells #[.int .i64 m.kind, .int .i64 m.frm, .int .i64 m.dest, .int .i64 m.term, .int .i64 m.index, .int .i64 m.logTerm, .int .i64 m.commit, .slice ia IL ic, .bool m.yes] 40)).drew U.heap.size 40 #[.int .i64 m.kind, .int .i64 m.frm, .int .i64 m.dest, .int .i64 m.term, .int .i64 m.index, .int .i64 m.logTerm, .int .i64 m.commit, .slice ia IL ic, .bool m.yes]) := hide (BK.new U _ _)
  have hfp : ∀ b, Fp A U p nv (.slice (some ⟨g, off, none⟩) W.net.length cap) b → Fp A (U.alloc (.cells #[.int .i64 m.kind, .int .i64 m.frm, .int .i64 m.dest, .int .i64 m.term, .int .i64 m.index, .int .i64 m.logTerm, .int .i64 m.commit, .slice ia IL ic, .bool m.yes] 40)).drew p nv (.slice (some ⟨g, off, none⟩) W.net.length cap) b ∧ (U.alloc (.cells #[.int .i64 m.kind, .int .i64 m.frm, .int .i64 m.dest, .int .i64 m.term, .int .i64 m.index, .int .i64 m.logTerm, .int .i64 m.commit, .slice ia IL ic, .bool m.yes] 40)).drew.heap[b]? = U.heap[b]? := fun b hb => ⟨⟨Nat.lt_of_lt_of_le hb.1 b1.size, hb.2⟩, b1.block b hb.1⟩
  have G1 := hide (GV.keep hfp hG)
  have FM : Hid (Fp A (U.alloc (.cells #[.int .i64 m.kind, .int .i64 m.frm, .int .i64 m.dest, .int .i64 m.term, .int .i64 m.index, .int .i64 m.logTerm, .int .i64 m.commit, .slice ia IL ic, .bool m.yes] 40)).drew p nv (.slice (some ⟨g, off, none⟩) W.net.length cap) U.heap.size) := hide (Fp.new hu (Nat.le_refl _) (unhide M1).low)
  have FE := hide (hfp _ hfe).1
  have B1 := hide (below_via hbU b1)
  have R1 : Hid (Frm A p w nv (.slice (some ⟨g, off, none⟩) W.net.length cap) (U.alloc (.cells #[.int .i64 m.kind, .int .i64 m.frm, .int .i64 m.dest, .int .i64 m.term, .int .i64 m.index, .int .i64 m.logTerm, .int .i64 m.commit, .slice ia IL ic, .bool m.yes] 40)).drew nv (.slice (some ⟨g, off, none⟩) W.net.length cap)) := hide (Frm.below (unhide B1))
  clear hu bV b1 hfp hG hbU E0 hfe
  go_enter Try.func24, Try.ntmps24
  go_upto_region 1 with fail
  rw [← hU]
  clear hU
  go_region
  clear d0 d1 d2 d3 d4 d5 d6 d7 d8 y0 y1 y2 y3 y4 y5 y6 y7 y8 q1 q1' e2 e2'
  generalize U.heap.size = bm at M1 FM ⊢
  generalize (U.alloc (.cells #[.int .i64 m.kind, .int .i64 m.frm, .int .i64 m.dest, .int .i64 m.term, .int .i64 m.index, .int .i64 m.logTerm, .int .i64 m.commit, .slice ia IL ic, .bool m.yes] 40)).drew = w1 at H1 E1 M1 G1 FM FE B1 R1 ⊢
  have e0 : w1.cell? ⟨w.heap.size, 0, none⟩ = some (.int .i64 4) := (unhide E1).at rfl
  have e2 : w1.cell? ⟨w.heap.size, 2, none⟩ = some (.int .i64 (i : Int)) := (unhide E1).at rfl
  have q1 : w1.cell? ⟨p, 1, none⟩ = some (.slice (some ⟨g, off, none⟩) W.net.length cap) := (unhide H1).blk.at rfl
  have z1 : w1.frozen? ⟨p, 1, none⟩ = false := (unhide H1).blk.thaw _
  obtain ⟨j, hj⟩ : ∃ j, j = i + 1 := ⟨_, rfl⟩
  have ej : IntKind.i64.wrap ((i : Int) + 1) = (j : Int) := by rw [hj]; exact wrap_i64 (by omega) (by omega)
  have CD := hide (delete_any B g off cap W.net.length i tc w1.drew ((unhide H1).net.below (below_drew _)) (unhide H1).tC.one hi hT j hj)
  have HJ := hide hj
  clear hj
  go_wp2_with fail
  go_cut [] from 5 (fun wx => Hid (∃ nc tc, CW A B wx p { W with net := W.net.eraseIdx i } nv (.slice (some ⟨g, off, none⟩) (W.net.length - 1) cap) nc tc) ∧ Hid (BK wx w.heap.size 38 #[.int .i64 4, .int .i64 node, .int .i64 (i : Int)]) ∧ Hid (BK wx bm 40 #[.int .i64 m.kind, .int .i64 m.frm, .int .i64 m.dest, .int .i64 m.term, .int .i64 m.index, .int .i64 m.logTerm, .int .i64 m.commit, .slice ia IL ic, .bool m.yes]) ∧ Hid (GV (Fp A wx p nv (.slice (some ⟨g, off, none⟩) (W.net.length - 1) cap)) wx #[.int .i64 m.kind, .int .i64 m.frm, .int .i64 m.dest, .int .i64 m.term, .int .i64 m.index, .int .i64 m.logTerm, .int .i64 m.commit, .slice ia IL ic, .bool m.yes] m) ∧ Hid (Fp A wx p nv (.slice (some ⟨g, off, none⟩) (W.net.length - 1) cap) bm) ∧ Hid (Below B w wx) ∧ Hid (Frm A p w nv (.slice (some ⟨g, off, none⟩) W.net.length cap) wx nv (.slice (some ⟨g, off, none⟩) (W.net.length - 1) cap)))
  case first =>
    go_region_with (go_at_call 33; refine (unhide CD).mono ?_; rintro e w2 ⟨rfl, hro, hg⟩; have q2 : BK w2 p 56 #[nv, .slice (some ⟨g, off, none⟩) W.net.length cap] := (hg.block p (unhide H1).lo (fun e => (unhide H1).pt (by cases e; rfl))).trans (unhide H1).blk; have q3 := q2.at (j := 1) rfl; have q4 := q2.thaw 1)
    all_goals go_wp2_with fail
    all_goals go_meet
    all_goals
      have hg0 : w1.grownBy w2 (some g) := grown_trans (grown_below' (below_drew w1) _) hg
      have hc := MC.cut (unhide H1).tC i
      rw [← unhide HJ] at hc
      have hel : (W.net.eraseIdx i).length = W.net.length - 1 := List.length_eraseIdx_of_lt hi
      have H2 := (unhide H1).setNet (T := W.net.eraseIdx i) (tv' := (.slice (some ⟨g, off, none⟩) (W.net.length - 1) cap)) hg0 (by rw [hel]; exact hro) (.inl rfl) hc
      have hs := grown_set w2 ⟨p, 1, none⟩ (.slice (some ⟨g, off, none⟩) (W.net.length - 1) cap)
      have k2 : ∀ b, Fp A w1 p nv (.slice (some ⟨g, off, none⟩) W.net.length cap) b → Fp A (w2.setCell ⟨p, 1, none⟩ (.slice (some ⟨g, off, none⟩) (W.net.length - 1) cap)) p nv (.slice (some ⟨g, off, none⟩) (W.net.length - 1) cap) b ∧ (w2.setCell ⟨p, 1, none⟩ (.slice (some ⟨g, off, none⟩) (W.net.length - 1) cap)).heap[b]? = w1.heap[b]? := fun b hb => by
        have l2 := Nat.lt_of_lt_of_le hb.1 hg0.size
        exact ⟨⟨Nat.lt_of_lt_of_le l2 hs.size, hb.2⟩, (hs.block b l2 (fun e => hb.2.1 (by cases e; rfl))).trans (hg0.block b hb.1 (fun e => hb.2.2.2.1 (by cases e; rfl)))⟩
      exact ⟨hide ⟨_, _, H2⟩, hide ((k2 _ (unhide FE)).2.trans (unhide E1)), hide ((k2 bm (unhide FM)).2.trans (unhide M1)), hide (GV.keep k2 (unhide G1)), hide (k2 bm (unhide FM)).1, hide ((((unhide B1).mono (unhide hszB)).trans ((Below.refl B w1).grown hg0 (unhide H1).szB fun b hb => by cases hb; exact ((unhide H1).net.lt g rfl).1)).setCell (unhide H1).low _), hide ((unhide R1).trans k2)⟩
  case rest =>
  obtain ⟨H2, E2, M2, G2, F2, B2, R2⟩ := hcut
  clear q1 z1 e0 e2 CD H1 E1 M1 G1 FM FE B1 R1
  have e0 : wc.cell? ⟨w.heap.size, 0, none⟩ = some (.int .i64 4) := (unhide E2).at rfl
  obtain ⟨nc', tc', h2⟩ := unhide H2
  clear H2
  have H2 := hide h2
  clear h2
  have c2 : wc.cell? ⟨bm, 2, none⟩ = some (.int .i64 m.dest) := (unhide M2).at rfl
  obtain ⟨na, NL, ncap, -, -, -, hNV, -, hNL, -, -, -, -, q0, -, -, -⟩ := (unhide H2).tell
  have CN := hide (hasNode_any p NL ncap na m.dest wc q0)
  have dk : decide (1 ≤ m.dest ∧ m.dest ≤ (NL : Int)) = false := by have e : NL = W.nodes.length := unhide hNL; rw [e]; exact unhide HNO
  rw [dk] at CN
  clear dk
  go_wp2_with (go_at_call 19; refine (unhide CN).mono ?_; rintro e w9 ⟨rfl, rfl⟩)
  go_wp2
  go_end0
  exact ⟨rfl, _, _, _, _, unhide H2, unhide B2, unhide R2⟩

end Go.Proofs.Ytneepoaimbnneaa.CL

namespace Go.Proofs.Ytneepoaimbnneaa.CL
open Go.RowKit
variable {A : Nat → Prop}

set_option maxHeartbeats 4000000 in
set_option maxRecDepth 100000 in
theorem carry_drop (B p i : Nat) (node : Int) (m : Rf.Msg) (W : Rf.Wd) (nv tv : Value) (nc tc : List Value) (w : World) (h : CW A B w p W nv tv nc tc) (hm : W.net[i]? = some m) (hT : W.net.length ≤ 1000) :
    Calls Try.prog 24 #[.pointer (some ⟨p, 0, none⟩), .agg #[.int .i64 6, .int .i64 node, .int .i64 (i : Int)]] w (PC A B p nv tv w { W with net := W.net.eraseIdx i }) := by
  have hi : i < W.net.length := (List.getElem?_eq_some_iff.1 hm).1
  obtain ⟨U, hU⟩ : ∃ U, U = w.alloc (.cells #[.int .i64 6, .int .i64 node, .int .i64 (i : Int)] 38) := ⟨_, rfl⟩
  have hbU : Below w.heap.size w U := by rw [hU]; exact below_new _ _
  have E0 : BK U w.heap.size 38 #[.int .i64 6, .int .i64 node, .int .i64 (i : Int)] := by rw [hU]; exact BK.new _ _ _
  have hu := h.below hbU
  have hszB := hide h.szB
  have hfe : Fp A U p nv tv w.heap.size := Fp.new h (Nat.le_refl _) E0.low
  clear h
  obtain ⟨g, off, cap, ia, IL, ic, rfl, hG, hat, -⟩ := CW.msg hu hm
  have bV := below_new U (.cells #[.int .i64 0, .int .i64 0, .int .i64 0, .int .i64 0, .int .i64 0, .int .i64 0, .int .i64 0, .slice none 0 0, .bool false] 40)
  obtain ⟨d0, d1, d2, d3, d4, d5, d6, d7, d8⟩ := hat
  obtain ⟨y0, y1, y2, y3, y4, y5, y6, y7, y8⟩ := At9.keep (w' := U.alloc (.cells #[.int .i64 0, .int .i64 0, .int .i64 0, .int .i64 0, .int .i64 0, .int .i64 0, .int .i64 0, .slice none 0 0, .bool false] 40)) ⟨d0, d1, d2, d3, d4, d5, d6, d7, d8⟩ (bV.block g (hu.net.lt g rfl).2)
  have q1 : U.cell? ⟨p, 1, none⟩ = some (.slice (some ⟨g, off, none⟩) W.net.length cap) := hu.blk.at rfl
  have q1' : (U.alloc (.cells #[.int .i64 0, .int .i64 0, .int .i64 0, .int .i64 0, .int .i64 0, .int .i64 0, .int .i64 0, .slice none 0 0, .bool false] 40)).cell? ⟨p, 1, none⟩ = some (.slice (some ⟨g, off, none⟩) W.net.length cap) := (hu.below bV).blk.at rfl
  have e2 : U.cell? ⟨w.heap.size, 2, none⟩ = some (.int .i64 (i : Int)) := E0.at rfl
  have e2' : (U.alloc (.cells #[.int .i64 0, .int .i64 0, .int .i64 0, .int .i64 0, .int .i64 0, .int .i64 0, .int .i64 0, .slice none 0 0, .bool false] 40)).cell? ⟨w.heap.size, 2, none⟩ = some (.int .i64 (i : Int)) := (E0.keep bV).at rfl
  have hi' : (i : Int) < (W.net.length : Int) := by omega
  have hle := hu.net.parts.2.2.1
  have b1 : Below U.heap.size U (U.alloc (.cells #[.int .i64 m.kind, .int .i64 m.frm, .int .i64 m.dest, .int .i64 m.term, .int .i64 m.index, .int .i64 m.logTerm, .int .i64 m.commit, .slice ia IL ic, .bool m.yes] 40)).drew := (below_new U _).drew
  have H1 := hide (hu.below b1)
  have E1 := hide (E0.keep b1)
  have M1 : Hid (BK (U.alloc (.cells #[.int .i64 m.kind, .int .i64 m.frm, .int .i64 m.dest, .int .i64 m.term, .int .i64 m.index, .int .i64 m.logTerm, .int .i64 m.commit, .slice ia IL ic, .bool m.yes] 40)).drew U.heap.size 40 #[.int .i64 m.kind, .int .i64 m.frm, .int .i64 m.dest, .int .i64 m.term, .int .i64 m.index, .int .i64 m.logTerm, .int .i64 m.commit, .slice ia IL ic, .bool m.yes]) := hide (BK.new U _ _)
  have hfp : ∀ b, Fp A U p nv (.slice (some ⟨g, off, none⟩) W.net.length cap) b → Fp A (U.alloc (.cells #[.int .i64 m.kind, .int .i64 m.frm, .int .i64 m.dest, .int .i64 m.term, .int .i64 m.index, .int .i64 m.logTerm, .int .i64 m.commit, .slice ia IL ic, .bool m.yes] 40)).drew p nv (.slice (some ⟨g, off, none⟩) W.net.length cap) b ∧ (U.alloc (.cells #[.int .i64 m.kind, .int .i64 m.frm, .int .i64 m.dest, .int .i64 m.term, .int .i64 m.index, .int .i64 m.logTerm, .int .i64 m.commit, .slice ia IL ic, .bool m.yes] 40)).drew.heap[b]? = U.heap[b]? := fun b hb => ⟨⟨Nat.lt_of_lt_of_le hb.1 b1.size, hb.2⟩, b1.block b hb.1⟩
  have G1 := hide (GV.keep hfp hG)
  have FM : Hid (Fp A (U.alloc (.cells #[.int .i64 m.kind, .int .i64 m.frm, .int .i64 m.dest, .int .i64 m.term, .int .i64 m.index, .int .i64 m.logTerm, .int .i64 m.commit, .slice ia IL ic, .bool m.yes] 40)).drew p nv (.slice (some ⟨g, off, none⟩) W.net.length cap) U.heap.size) := hide (Fp.new hu (Nat.le_refl _) (unhide M1).low)
  have FE := hide (hfp _ hfe).1
  have B1 := hide (below_via hbU b1)
  have R1 : Hid (Frm A p w nv (.slice (some ⟨g, off, none⟩) W.net.length cap) (U.alloc (.cells #[.int .i64 m.kind, .int .i64 m.frm, .int .i64 m.dest, .int .i64 m.term, .int .i64 m.index, .int .i64 m.logTerm, .int .i64 m.commit, .slice ia IL ic, .bool m.yes] 40)).drew nv (.slice (some ⟨g, off, none⟩) W.net.length cap)) := hide (Frm.below (unhide B1))
  clear hu bV b1 hfp hG hbU E0 hfe
  go_enter Try.func24, Try.ntmps24
  go_upto_region 1 with fail
  rw [← hU]
  clear hU
  go_region
  clear d0 d1 d2 d3 d4 d5 d6 d7 d8 y0 y1 y2 y3 y4 y5 y6 y7 y8 q1 q1' e2 e2'
  generalize U.heap.size = bm at M1 FM ⊢
  generalize (U.alloc (.cells #[.int .i64 m.kind, .int .i64 m.frm, .int .i64 m.dest, .int .i64 m.term, .int .i64 m.index, .int .i64 m.logTerm, .int .i64 m.commit, .slice ia IL ic, .bool m.yes] 40)).drew = w1 at H1 E1 M1 G1 FM FE B1 R1 ⊢
  have e0 : w1.cell? ⟨w.heap.size, 0, none⟩ = some (.int .i64 6) := (unhide E1).at rfl
  have e2 : w1.cell? ⟨w.heap.size, 2, none⟩ = some (.int .i64 (i : Int)) := (unhide E1).at rfl
  have q1 : w1.cell? ⟨p, 1, none⟩ = some (.slice (some ⟨g, off, none⟩) W.net.length cap) := (unhide H1).blk.at rfl
  have z1 : w1.frozen? ⟨p, 1, none⟩ = false := (unhide H1).blk.thaw _
  obtain ⟨j, hj⟩ : ∃ j, j = i + 1 := ⟨_, rfl⟩
  have ej : IntKind.i64.wrap ((i : Int) + 1) = (j : Int) := by rw [hj]; exact wrap_i64 (by omega) (by omega)
  have CD := hide (delete_any B g off cap W.net.length i tc w1.drew ((unhide H1).net.below (below_drew _)) (unhide H1).tC.one hi hT j hj)
  have HJ := hide hj
  clear hj
  go_wp2_with fail
  go_cut [] from 5 (fun wx => Hid (∃ nc tc, CW A B wx p { W with net := W.net.eraseIdx i } nv (.slice (some ⟨g, off, none⟩) (W.net.length - 1) cap) nc tc) ∧ Hid (BK wx w.heap.size 38 #[.int .i64 6, .int .i64 node, .int .i64 (i : Int)]) ∧ Hid (BK wx bm 40 #[.int .i64 m.kind, .int .i64 m.frm, .int .i64 m.dest, .int .i64 m.term, .int .i64 m.index, .int .i64 m.logTerm, .int .i64 m.commit, .slice ia IL ic, .bool m.yes]) ∧ Hid (GV (Fp A wx p nv (.slice (some ⟨g, off, none⟩) (W.net.length - 1) cap)) wx #[.int .i64 m.kind, .int .i64 m.frm, .int .i64 m.dest, .int .i64 m.term, .int .i64 m.index, .int .i64 m.logTerm, .int .i64 m.commit, .slice ia IL ic, .bool m.yes] m) ∧ Hid (Fp A wx p nv (.slice (some ⟨g, off, none⟩) (W.net.length - 1) cap) bm) ∧ Hid (Below B w wx) ∧ Hid (Frm A p w nv (.slice (some ⟨g, off, none⟩) W.net.length cap) wx nv (.slice (some ⟨g, off, none⟩) (W.net.length - 1) cap)))
  case first =>
    go_region_with (go_at_call 33; refine (unhide CD).mono ?_; rintro e w2 ⟨rfl, hro, hg⟩; have q2 : BK w2 p 56 #[nv, .slice (some ⟨g, off, none⟩) W.net.length cap] := (hg.block p (unhide H1).lo (fun e => (unhide H1).pt (by cases e; rfl))).trans (unhide H1).blk; have q3 := q2.at (j := 1) rfl; have q4 := q2.thaw 1)
    all_goals go_wp2_with fail
    all_goals go_meet
    all_goals
      have hg0 : w1.grownBy w2 (some g) := grown_trans (grown_below' (below_drew w1) _) hg
      have hc := MC.cut (unhide H1).tC i
      rw [← unhide HJ] at hc
      have hel : (W.net.eraseIdx i).length = W.net.length - 1 := List.length_eraseIdx_of_lt hi
      have H2 := (unhide H1).setNet (T := W.net.eraseIdx i) (tv' := (.slice (some ⟨g, off, none⟩) (W.net.length - 1) cap)) hg0 (by rw [hel]; exact hro) (.inl rfl) hc
      have hs := grown_set w2 ⟨p, 1, none⟩ (.slice (some ⟨g, off, none⟩) (W.net.length - 1) cap)
      have k2 : ∀ b, Fp A w1 p nv (.slice (some ⟨g, off, none⟩) W.net.length cap) b → Fp A (w2.setCell ⟨p, 1, none⟩ (.slice (some ⟨g, off, none⟩) (W.net.length - 1) cap)) p nv (.slice (some ⟨g, off, none⟩) (W.net.length - 1) cap) b ∧ (w2.setCell ⟨p, 1, none⟩ (.slice (some ⟨g, off, none⟩) (W.net.length - 1) cap)).heap[b]? = w1.heap[b]? := fun b hb => by
        have l2 := Nat.lt_of_lt_of_le hb.1 hg0.size
        exact ⟨⟨Nat.lt_of_lt_of_le l2 hs.size, hb.2⟩, (hs.block b l2 (fun e => hb.2.1 (by cases e; rfl))).trans (hg0.block b hb.1 (fun e => hb.2.2.2.1 (by cases e; rfl)))⟩
      exact ⟨hide ⟨_, _, H2⟩, hide ((k2 _ (unhide FE)).2.trans (unhide E1)), hide ((k2 bm (unhide FM)).2.trans (unhide M1)), hide (GV.keep k2 (unhide G1)), hide (k2 bm (unhide FM)).1, hide ((((unhide B1).mono (unhide hszB)).trans ((Below.refl B w1).grown hg0 (unhide H1).szB fun b hb => by cases hb; exact ((unhide H1).net.lt g rfl).1)).setCell (unhide H1).low _), hide ((unhide R1).trans k2)⟩
  case rest =>
  obtain ⟨H2, E2, M2, G2, F2, B2, R2⟩ := hcut
  clear q1 z1 e0 e2 CD H1 E1 M1 G1 FM FE B1 R1
  have e0 : wc.cell? ⟨w.heap.size, 0, none⟩ = some (.int .i64 6) := (unhide E2).at rfl
  obtain ⟨nc', tc', h2⟩ := unhide H2
  clear H2
  have H2 := hide h2
  clear h2
  go_wp2
  go_end0
  exact ⟨rfl, _, _, _, _, unhide H2, unhide B2, unhide R2⟩

end Go.Proofs.Ytneepoaimbnneaa.CL
