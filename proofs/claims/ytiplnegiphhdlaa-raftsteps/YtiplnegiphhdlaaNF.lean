/- Walks: send, others (raft). -/
import Derived.Test.YtiplnegiphhdlaaNE
namespace Go.Proofs.Ytiplnegiphhdlaa
open Go.RowKit

theorem its_drop : ∀ (l : List Rf.Item) (i : Nat), its (l.drop i) = (its l).drop (i * 2)
  | [], i => by simp [its]
  | x :: l, 0 => by simp
  | x :: l, i + 1 => by
    rw [List.drop_succ_cons, its_drop l i]
    have e : its (x :: l) = [.int .i64 x.1, .int .i64 x.2] ++ its l := by simp [its]
    rw [e, show (i + 1) * 2 = 2 + i * 2 by omega, ← List.drop_drop]
    rfl
theorem its_take : ∀ (l : List Rf.Item) (i : Nat), its (l.take i) = (its l).take (i * 2)
  | [], i => by simp [its]
  | x :: l, 0 => by simp [its]
  | x :: l, i + 1 => by
    have e : its (x :: l) = [.int .i64 x.1, .int .i64 x.2] ++ its l := by simp [its]
    have e2 : its (x :: l.take i) = [.int .i64 x.1, .int .i64 x.2] ++ its (l.take i) := by simp [its]
    have e3 : List.take (2 + i * 2) [Value.int .i64 x.1, Value.int .i64 x.2] = [.int .i64 x.1, .int .i64 x.2] := List.take_of_length_le (by simp)
    rw [List.take_succ_cons, e2, its_take l i, e, show (i + 1) * 2 = 2 + i * 2 by omega, List.take_append, e3]
    simp
/-- a part of a slice of items -/
theorem TV.sub {P : Nat → Prop} {w : World} {g n cap : Nat} {l : List Rf.Item} (h : TV P w (.slice (some ⟨g, 0, none⟩) n cap) l) (i k c : Nat) (hi : i + k ≤ l.length) (hc : k ≤ c) (hc2 : c ≤ 9223372036854775807) : TV P w (.slice (some ⟨g, i * 2, none⟩) k c) ((l.drop i).take k) := by
  have hl : ((l.drop i).take k).length = k := by rw [List.length_take, List.length_drop]; omega
  obtain ⟨_, a, cap', e, _, _, h5⟩ := h
  cases e
  refine ⟨its_len _, some ⟨g, i * 2, none⟩, c, by rw [hl], by rw [hl]; exact hc, hc2, fun hk => ⟨g, i * 2, rfl, ?_, fun j u hj => ?_⟩⟩
  · obtain ⟨b, off, e1, e2, _⟩ := h5 (by omega)
    cases e1; exact e2
  · obtain ⟨b, off, e1, _, e3⟩ := h5 (by omega)
    cases e1
    rw [its_take, its_drop, List.getElem?_take] at hj
    split at hj
    · rw [List.getElem?_drop] at hj
      have := e3 _ u hj
      rwa [Nat.zero_add] at this
    · cases hj
theorem TV.none {P : Nat → Prop} {w : World} {a : Option Addr} {c : Nat} (hc : c ≤ 9223372036854775807) : TV P w (.slice a 0 c) [] := ⟨by simp [its], a, c, rfl, Nat.zero_le _, hc, fun h => absurd rfl h⟩

end Go.Proofs.Ytiplnegiphhdlaa

namespace Go.Proofs.Ytiplnegiphhdlaa.RW
open Go.RowKit

set_option maxHeartbeats 4000000 in
set_option maxRecDepth 100000 in
theorem send_any (B p : Nat) (x : Rf.Node) (ms : List Rf.Msg) (o : Own) (k fr : Nat) (w : World) (hk : WK B w p x ms o) (hms : ms.length ≤ 1000) (hk1 : 1 ≤ k) (hk2 : k ≤ x.next.length) (hf : x.next[k - 1]? = some ((fr : Int) + 1)) (hf2 : fr ≤ x.log.length) (hl : x.log.length ≤ 60) :
    Calls Try.prog 31 #[.pointer (some ⟨p, 0, none⟩), .int .i64 (k : Int)] w (PS B p o w x (ms ++ [Rf.batch x (k : Int)])) := by
  obtain ⟨la, LL, lc, va, VL, vc, na, NL, nc, ma, ML, mc, sa, SL, sc, HE, hLL, hVL, hNL, hML, hSL, ⟨r1, _, _, _⟩, ⟨c0, c1, c2, c3, c4, c5, c6, c7, c8, c9, c10, c11⟩, ⟨f0, f1, f2, f3, f4, f5, f6, f7, f8, f9, f10, f11⟩⟩ := hk.tell
  have hp := hk.lo
  have HK := hide hk
  have hgd : x.next.getD (k - 1) 0 = (fr : Int) + 1 := by simp [List.getD, hf]
  have HBt : Hid (Rf.batch x (k : Int) = { kind := 3, frm := x.id, dest := k, term := x.term, index := (fr : Int), logTerm := Rf.atN x.log fr, commit := x.commit, items := (x.log.drop fr).take 3, yes := false }) := hide (by
    rw [Rf.batch, show ((k : Int) - 1).toNat = k - 1 by omega, hgd, show ((fr : Int) + 1 - 1) = (fr : Int) by omega, Int.toNat_natCast])
  have H4 : Hid (Iv w (.slice na NL nc) x.next) := hide (by have := SC.own hk.next; rwa [(unhide HE).2.2.1] at this)
  have H2 : Hid (Tv w (.slice la LL lc) x.log) := hide (by have := SC.own hk.log; rwa [(unhide HE).1] at this)
  obtain ⟨b, off, cap', e, hbl, _, _⟩ := (unhide H4).ex (by intro e; rw [e] at hf; simp at hf)
  have ena : na = some ⟨b, off, none⟩ := by cases e; rfl
  clear e
  subst ena
  have q0 := (unhide H4).at hf
  have hkl' : ((k - 1 : Nat) : Int) < (NL : Int) := by rw [unhide hNL]; omega
  have hkl2 : k - 1 < NL := by rw [unhide hNL]; omega
  have ek : (k : Int) - 1 = ((k - 1 : Nat) : Int) := by omega
  have ek2 : IntKind.i64.wrap ((k - 1 : Nat) : Int) = ((k - 1 : Nat) : Int) := wrap_i64 (by omega) (by omega)
  have ef : IntKind.i64.wrap ((fr : Int) + 1 - 1) = (fr : Int) := by rw [wrap_i64 (by omega) (by omega)]; omega
  have ef2 : IntKind.i64.wrap (fr : Int) = (fr : Int) := wrap_i64 (by omega) (by omega)
  obtain ⟨T, hT⟩ : ∃ T : Nat, T = fr + 3 := ⟨_, rfl⟩
  have ef3 : IntKind.i64.wrap ((fr : Int) + 3) = (T : Int) := by rw [wrap_i64 (by omega) (by omega), hT]; omega
  have HT := hide hT
  have hT1 : (fr : Int) < (T : Int) := by omega
  have hT2 : fr ≤ T := by omega
  clear hT
  have Hf2 : Hid (fr ≤ LL) := hide (by have := unhide hLL; omega)
  have hfL : (fr : Int) ≤ (LL : Int) := by have := unhide hLL; omega
  have hf60 : (fr : Int) ≤ 60 := by omega
  have CT := hide (fun wx (hx : Below w.heap.size w wx) => termOf_any p x.log (.slice la LL lc) fr wx ((World.cell?_of_block (w := w) (a := ⟨p, 4, none⟩) (hx.block p hp)).trans c4) (TV.keep (kept hx) (unhide H2)) (by omega))
  obtain ⟨LT, hLT⟩ : ∃ z, z = Rf.atN x.log fr := ⟨_, rfl⟩
  rw [← hLT] at CT
  have HLT := hide hLT
  have Hlc : Hid (lc ≤ 9223372036854775807) := hide (by obtain ⟨a, c, e, _, h⟩ := SC.shape (unhide H2); cases e; exact h)
  have HLA : Hid ((la = none ∧ LL = 0 ∧ lc = 0) ∨ ∃ g, la = some ⟨g, 0, none⟩) := hide (by
    have := hk.log.2
    rw [(unhide HE).1] at this
    rcases this with ⟨e, n0⟩ | ⟨g, cap, cur, e, _⟩
    · cases e; exact .inl ⟨rfl, rfl, rfl⟩
    · cases e; exact .inr ⟨g, rfl⟩)
  clear hk hk1 hk2 hf hf2 hgd f0 f1 f2 f3 f4 f5 f6 f7 f8 f9 f10 f11
  have CS : Hid (∀ (wL : World) (lv : Value), wL.ownsRow w.drew.heap.size 58 2 lv ((x.log.drop fr).take 3).length (its ((x.log.drop fr).take 3)) → Below w.drew.heap.size w.drew wL →
      Calls Try.prog 41 #[.pointer (some ⟨p, 0, none⟩), .agg #[.int .i64 3, .int .i64 0, .int .i64 (k : Int), .int .i64 0, .int .i64 (fr : Int), .int .i64 LT, .int .i64 x.commit, lv, .bool false]] wL
        (fun e w5 => e = .returned (.tuple #[]) ∧ w5.cell? ⟨p, 4, none⟩ = some (.slice la LL lc) ∧ w5.cell? ⟨p, 5, none⟩ = some (.int .i64 x.commit) ∧ Hid (∃ s' cs', WK B w5 p x (ms ++ [Rf.batch x (k : Int)]) { o with s := s', cs := cs' } ∧ Fr B p o w { o with s := s', cs := cs' } w5))) := hide (fun wL lv h2 h3 => by
    have h1 : Below w.heap.size w w.drew := (Below.refl _ _).drew
    have hb := below_via h1 h3
    rw [unhide HBt, ← unhide HLT]
    refine (say_any B p x ms o { kind := 3, frm := x.id, dest := k, term := x.term, index := (fr : Int), logTerm := LT, commit := x.commit, items := (x.log.drop fr).take 3, yes := false } lv wL ((unhide HK).below hb) (SC.keep (fun b hb' => ⟨⟨Nat.le_trans (unhide HK).szB (Nat.le_trans h1.size hb'.1), hb'.2, (unhide HK).newFree (Nat.le_trans h1.size hb'.1)⟩, rfl⟩) (SC.own' h2)) hms rfl rfl 0 0).mono ?_
    rintro e w5 ⟨h, s5, cs5, hK5, hF5⟩
    exact ⟨h, (hK5.blk.at (j := 4) rfl).trans (congrArg some (unhide HE).1), hK5.blk.at (j := 5) rfl, hide ⟨s5, cs5, hK5, (Fr.below hb (unhide HK).szB).trans hF5⟩⟩)
  have CC0 : Hid (∀ (v : Value), Tv w.drew v ((x.log.drop fr).take 3) → Calls Try.prog 38 #[v] w.drew (fun e wL => ∃ ja JL jc, e = .returned (.slice ja JL jc) ∧ wL.cell? ⟨p, 4, none⟩ = some (.slice la LL lc) ∧ wL.cell? ⟨p, 5, none⟩ = some (.int .i64 x.commit) ∧
      Hid (Calls Try.prog 41 #[.pointer (some ⟨p, 0, none⟩), .agg #[.int .i64 3, .int .i64 0, .int .i64 (k : Int), .int .i64 0, .int .i64 (fr : Int), .int .i64 LT, .int .i64 x.commit, .slice ja JL jc, .bool false]] wL
        (fun e w5 => e = .returned (.tuple #[]) ∧ w5.cell? ⟨p, 4, none⟩ = some (.slice la LL lc) ∧ w5.cell? ⟨p, 5, none⟩ = some (.int .i64 x.commit) ∧ Hid (∃ s' cs', WK B w5 p x (ms ++ [Rf.batch x (k : Int)]) { o with s := s', cs := cs' } ∧ Fr B p o w { o with s := s', cs := cs' } w5))))) := hide (fun v hv => by
    refine (copiedT_any ((x.log.drop fr).take 3) v w.drew hv (by have := List.length_take_le 3 (x.log.drop fr); omega)).mono ?_
    rintro e wL ⟨lv, rfl, hoL, hbL⟩
    obtain ⟨ja, JL, jc, rfl, hJL, _, _⟩ := SC.shp (SC.own hoL)
    exact ⟨ja, JL, jc, rfl, (World.cell?_of_block (w := w.drew) (a := ⟨p, 4, none⟩) (hbL.block p hp)).trans c4, (World.cell?_of_block (w := w.drew) (a := ⟨p, 5, none⟩) (hbL.block p hp)).trans c5, hide (unhide CS wL _ hoL hbL)⟩)
  have CT1 := hide (unhide CT w.drew (Below.refl _ _).drew)
  have Hlen : Hid (LL = x.log.length) := hLL
  clear hLT CS CT
  rcases unhide HLA with ⟨rfl, rfl, rfl⟩ | ⟨g, rfl⟩
  · have e0 : fr = 0 := by omega
    subst e0
    have CC := hide (unhide CC0 (.slice none 0 0) (by
      rw [List.drop_zero, List.eq_nil_of_length_eq_zero (unhide Hlen).symm, List.take_nil]
      exact SC.nil _ _ _))
    clear HLT HBt H2 H4 CC0
    rw [Int.natCast_zero] at CT1 CC
    go_enter Try.func31, Try.ntmps31
    go_wp2_with fail
    go_region_held2 (fun w' => w'.cell? ⟨p, 4, none⟩ = some (.slice none 0 0) ∧ w'.cell? ⟨p, 5, none⟩ = some (.int .i64 x.commit)) (go_keep)
      (first
        | (go_at_call 42; with_reducible refine (unhide CT1).mono ?_; rintro e w2 ⟨rfl, rfl⟩)
        | (go_at_call 38; with_reducible refine (unhide CC).mono ?_; rintro e wL ⟨ja, JL, jc, rfl, k4, k5, CS⟩)
        | (go_at_call 41; with_reducible refine (unhide CS).mono ?_; rintro e w5 ⟨rfl, k4', k5', FIN⟩))
    all_goals go_wp2
    all_goals go_end0
    all_goals exact ⟨rfl, unhide FIN⟩
  by_cases hlf : lc = fr
  · have e1 : fr = LL := by omega
    subst e1
    have e2 : fr = lc := hlf.symm
    subst e2
    clear hlf
    have CC := hide (unhide CC0 (.slice (some ⟨g, 0, none⟩) 0 0) (by
      rw [List.drop_of_length_le (by rw [← unhide Hlen]; exact Nat.le_refl _), List.take_nil]
      exact TV.none (by omega)))
    clear HLT HBt H2 H4 CC0
    go_enter Try.func31, Try.ntmps31
    go_wp2_with fail
    go_region_held2 (fun w' => w'.cell? ⟨p, 4, none⟩ = some (.slice (some ⟨g, 0, none⟩) fr fr) ∧ w'.cell? ⟨p, 5, none⟩ = some (.int .i64 x.commit)) (go_keep)
      (first
        | (go_at_call 42; with_reducible refine (unhide CT1).mono ?_; rintro e w2 ⟨rfl, rfl⟩)
        | (go_at_call 38; with_reducible refine (unhide CC).mono ?_; rintro e wL ⟨ja, JL, jc, rfl, k4, k5, CS⟩)
        | (go_at_call 41; with_reducible refine (unhide CS).mono ?_; rintro e w5 ⟨rfl, k4', k5', FIN⟩))
    all_goals go_wp2
    all_goals go_end0
    all_goals exact ⟨rfl, unhide FIN⟩
  by_cases hmin : (LL : Int) < (T : Int)
  · have CC := hide (unhide CC0 (.slice (some ⟨g, fr * 2, none⟩) (LL - fr) (lc - fr)) (by
      have := TV.sub (w := w.drew) (P := (· < w.drew.heap.size)) (unhide H2) fr (LL - fr) (lc - fr) (by rw [← unhide Hlen]; have := unhide HT; omega) (by omega) (by have := unhide Hlc; omega)
      rwa [show (x.log.drop fr).take (LL - fr) = (x.log.drop fr).take 3 by rw [List.take_of_length_le (by rw [List.length_drop, ← unhide Hlen]; have := unhide HT; omega), List.take_of_length_le (by rw [List.length_drop, ← unhide Hlen]; have := unhide HT; omega)]] at this))
    clear HLT HBt H2 H4 CC0
    go_enter Try.func31, Try.ntmps31
    go_wp2_with fail
    go_region_held2 (fun w' => w'.cell? ⟨p, 4, none⟩ = some (.slice (some ⟨g, 0, none⟩) LL lc) ∧ w'.cell? ⟨p, 5, none⟩ = some (.int .i64 x.commit)) (go_keep)
      (first
        | (go_at_call 42; with_reducible refine (unhide CT1).mono ?_; rintro e w2 ⟨rfl, rfl⟩)
        | (go_at_call 38; with_reducible refine (unhide CC).mono ?_; rintro e wL ⟨ja, JL, jc, rfl, k4, k5, CS⟩)
        | (go_at_call 41; with_reducible refine (unhide CS).mono ?_; rintro e w5 ⟨rfl, k4', k5', FIN⟩))
    all_goals go_wp2
    all_goals go_end0
    all_goals exact ⟨rfl, unhide FIN⟩
  · have hm2 : (T : Int) ≤ (LL : Int) := by omega
    have hm3 : (T : Int) ≤ (lc : Int) := by omega
    have hm4 : T ≤ lc := by omega
    have CC := hide (unhide CC0 (.slice (some ⟨g, fr * 2, none⟩) (T - fr) (lc - fr)) (by
      rw [show T - fr = 3 by have := unhide HT; omega]
      exact TV.sub (w := w.drew) (P := (· < w.drew.heap.size)) (unhide H2) fr 3 (lc - fr) (by rw [← unhide Hlen]; have := unhide HT; omega) (by have := unhide HT; omega) (by have := unhide Hlc; omega)))
    clear HLT HBt H2 H4 CC0
    go_enter Try.func31, Try.ntmps31
    go_wp2_with fail
    go_region_held2 (fun w' => w'.cell? ⟨p, 4, none⟩ = some (.slice (some ⟨g, 0, none⟩) LL lc) ∧ w'.cell? ⟨p, 5, none⟩ = some (.int .i64 x.commit)) (go_keep)
      (first
        | (go_at_call 42; with_reducible refine (unhide CT1).mono ?_; rintro e w2 ⟨rfl, rfl⟩)
        | (go_at_call 38; with_reducible refine (unhide CC).mono ?_; rintro e wL ⟨ja, JL, jc, rfl, k4, k5, CS⟩)
        | (go_at_call 41; with_reducible refine (unhide CS).mono ?_; rintro e w5 ⟨rfl, k4', k5', FIN⟩))
    all_goals go_wp2
    all_goals go_end0
    all_goals exact ⟨rfl, unhide FIN⟩

end Go.Proofs.Ytiplnegiphhdlaa.RW
