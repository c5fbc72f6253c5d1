/- Walks: whether a value is of a type, out of what is told of each of its list. -/
import Derived.Test.YtjgonkcfnfgakaaGreatDoorH1
import Derived.Test.YtjgonkcfnfgakaaGreatDoorU9
namespace Go.Proofs.YtjgonkcfnfgakaaGreatDoor
open Go.RowKit

/-- all but one block is as it was -/
structure But (p : Nat) (w w' : World) : Prop where
  os : w'.os = w.os
  tape : w'.tape = w.tape
  output : w'.output = w.output
  size : w.heap.size ≤ w'.heap.size
  block : ∀ k, k < w.heap.size → k ≠ p → w'.heap[k]? = w.heap[k]?
theorem But.refl (p : Nat) (w : World) : But p w w := ⟨rfl, rfl, rfl, Nat.le_refl _, fun _ _ _ => rfl⟩
theorem But.trans {p : Nat} {a b c : World} (h : But p a b) (k : But p b c) : But p a c :=
  ⟨k.os.trans h.os, k.tape.trans h.tape, k.output.trans h.output, Nat.le_trans h.size k.size, fun i hi hp => (k.block i (Nat.lt_of_lt_of_le hi h.size) hp).trans (h.block i hi hp)⟩
theorem But.of {p : Nat} {w w' : World} (h : Below w.heap.size w w') : But p w w' := ⟨h.os, h.tape, h.output, h.size, fun k hk _ => h.block k hk⟩
theorem But.on {p : Nat} {a b c : World} (h : But p a b) (k : Below a.heap.size b c) : But p a c :=
  ⟨k.os.trans h.os, k.tape.trans h.tape, k.output.trans h.output, Nat.le_trans h.size k.size, fun i hi hp => (k.block i hi).trans (h.block i hi hp)⟩
theorem But.set {p j : Nat} {w : World} {v : Value} : But p w (w.setCell ⟨p, j, none⟩ v) :=
  ⟨rfl, rfl, rfl, by simp [World.setCell], fun k _ hk => Below.heap_setCell w ⟨p, j, none⟩ v k hk⟩
theorem But.below {p B : Nat} {w w' : World} (h : But p w w') (hp : B ≤ p) (hw : B ≤ w.heap.size) : Below B w w' :=
  ⟨h.os, h.tape, h.output, h.size, fun k hk => h.block k (by omega) (by omega)⟩
theorem But.cell {p : Nat} {w w' : World} (h : But p w w') {q : Addr} (hq : q.block < w.heap.size) (hp : q.block ≠ p) : w'.cell? q = w.cell? q := World.cell?_of_block (w := w) (h.block q.block hq hp)
theorem But.frozen {p : Nat} {w w' : World} (h : But p w w') {q : Addr} (hq : q.block < w.heap.size) (hp : q.block ≠ p) : w'.frozen? q = w.frozen? q := World.frozen?_of_block (w := w) (h.block q.block hq hp)
theorem St.but {n : Nat} {w w' : World} {p s : Nat} (h : St w p s) (hb : But n w w') (ne : p ≠ n) : St w' p s :=
  ⟨(hb.cell (q := ⟨p, 0, none⟩) h.2.2 ne).trans h.1, (hb.frozen (q := ⟨p, 0, none⟩) h.2.2 ne).trans h.2.1, Nat.lt_of_lt_of_le h.2.2 hb.size⟩
theorem Bx2.but {p : Nat} {w w' : World} {b : Nat} {u v : Value} (h : Bx2 w b u v) (hb : But p w w') (ne : b ≠ p) : Bx2 w' b u v :=
  ⟨Nat.lt_of_lt_of_le h.low hb.size, (hb.cell (q := ⟨b, 0, none⟩) h.low ne).trans h.at0, (hb.cell (q := ⟨b, 1, none⟩) h.low ne).trans h.at1, (hb.frozen (q := ⟨b, 0, none⟩) h.low ne).trans h.th0, (hb.frozen (q := ⟨b, 1, none⟩) h.low ne).trans h.th1⟩
theorem below_new (w : World) (o : Obj) : Below w.heap.size w (w.alloc o) := (Below.refl _ _).alloc (Nat.le_refl _) o
set_option maxHeartbeats 2000000 in
theorem elem_any (a : Sp) (w : World) (h : 0 < a.n) (hb : a.n ≤ 100000) :
    Calls Tryz.prog 27 #[sh a] w fun e w' => e = .returned (sh ⟨a.n - 1, a.k⟩) ∧ Below w.heap.size w w' := by
  obtain ⟨n, k⟩ := a
  simp only at h hb
  have h0 : ((n : Int) == 0) = false := by
    have : ¬ (n : Int) = 0 := by omega
    simpa using this
  have B : ∀ o1 o2, Below w.heap.size w ((w.alloc o1).alloc o2) := fun o1 o2 => ((Below.refl _ _).alloc (Nat.le_refl _) _).alloc (by simp) _
  have HB := hide B
  clear B
  go_enter Tryz.func27, Tryz.ntmps27
  go_wp2
  refine bodyPost_ret (v := sh ⟨n - 1, k⟩) ?_ rfl ⟨rfl, unhide HB _ _⟩
  simp [results, Tryz.results27, go_sem]
  omega

/-- what has tells of a tree -/
def HasC (T : Tree) : Prop := ∀ (B : Nat) (w : World) (v : Array Value) (p n : Nat) (s : Sp), Mem B w T v → B ≤ p → St w p n → n ≤ 33554432 → s.n ≤ 60000 →
  Calls Tryz.prog 18 #[.pointer (some ⟨p, 0, none⟩), .agg v, sh s] w fun e w' => e = .returned (.bool (hasF T s n).1) ∧ St w' p (hasF T s n).2 ∧ But p w w'

theorem allF_nil (s : Sp) (n : Nat) : allF [] s n = (true, n) := by rw [allF]
theorem allF_much {u : Tree} {us : List Tree} {s : Sp} {n : Nat} (h : 33554432 < n) : allF (u :: us) s n = (false, n) := by rw [allF, if_pos h]
theorem allF_yes {u : Tree} {us : List Tree} {s : Sp} {n : Nat} (h : ¬ 33554432 < n) (g : (hasF u s n).1 = true) : allF (u :: us) s n = allF us s (hasF u s n).2 := by rw [allF, if_neg h, if_pos g]
theorem allF_no {u : Tree} {us : List Tree} {s : Sp} {n : Nat} (h : ¬ 33554432 < n) (g : (hasF u s n).1 = false) : allF (u :: us) s n = (false, (hasF u s n).2) := by rw [allF, if_neg h, if_neg (by rw [g]; decide)]

set_option maxHeartbeats 2000000 in
theorem all_nil (a : Option Addr) (cap : Nat) (w : World) (p : Nat) (s : Sp) :
    Calls Tryz.prog 26 #[.pointer (some ⟨p, 0, none⟩), .slice a 0 cap, sh s] w fun e w' => e = .returned (.bool true) ∧ Below w.heap.size w w' := by
  go_enter Tryz.func26, Tryz.ntmps26
  go_wp2_with fail
  refine wp_loop_rounds 1 ?_
  rw [rounds_succ]
  go_wp2
  go_ret
  exact ⟨rfl, below_new _ _⟩

set_option maxHeartbeats 4000000 in
theorem all_of (ks : List Tree) (IH : ∀ u ∈ ks, HasC u) (B : Nat) (w : World) (b off cap p n : Nat) (s : Sp) (hm : MemL B w ks b off) (hlt : b < B) (hl : ks.length ≤ 9223372036854775807) (hp : B ≤ p) (hS : St w p n) (hn : n ≤ 33554433) (hs : s.n ≤ 60000) :
    Calls Tryz.prog 26 #[.pointer (some ⟨p, 0, none⟩), .slice (some ⟨b, off, none⟩) ks.length cap, sh s] w fun e w' => e = .returned (.bool (allF ks s n).1) ∧ St w' p (allF ks s n).2 ∧ But p w w' := by
  have lp : p < w.heap.size := hS.2.2
  have IH' := hide IH
  have hm' := hide hm
  have S0 := hide (hS.below (below_new w (.cells #[.int .i64 (s.n : Int), .int .i64 s.k] 49)) lp)
  have X0 := hide (Bx2.new w 49 (.int .i64 s.n) (.int .i64 s.k))
  have W0 := hide (But.of (p := p) (below_new w (.cells #[.int .i64 (s.n : Int), .int .i64 s.k] 49)))
  clear IH hm hS
  go_enter Tryz.func26, Tryz.ntmps26
  go_wp2_with fail
  go_loopw [11] (fun i wr => ∃ m ni : Nat, m ≤ ks.length ∧ i = .int .i64 (m : Int) ∧ Hid (allF ks s n = allF (ks.drop m) s ni) ∧ ni ≤ 33554433 ∧ Hid (St wr p ni) ∧ Hid (Bx2 wr w.heap.size (.int .i64 s.n) (.int .i64 s.k)) ∧ Hid (But p w wr)) (fun i _ => ks.length - (intOf i).toNat)
  case atStart => exact ⟨0, n, Nat.zero_le _, rfl, hide rfl, hn, S0, X0, W0⟩
  case round =>
    obtain ⟨m, ni, hml, rfl, H, hni, HS, HX, HB⟩ := hrel
    clear S0 X0 W0
    by_cases hlt2 : m < ks.length
    · have hi1 : (m : Int) < (ks.length : Int) := by omega
      obtain ⟨u, hu⟩ : ∃ u, ks[m]? = some u := ⟨_, List.getElem?_eq_getElem hlt2⟩
      have hdrop : ks.drop m = u :: ks.drop (m + 1) := by
        rw [List.drop_eq_getElem_cons hlt2]
        congr 1
        rw [List.getElem?_eq_getElem hlt2] at hu
        exact Option.some.inj hu
      have HU := hide (unhide IH' u (List.mem_of_getElem? hu))
      have hBw : Below B w wr := (unhide HB).below hp (by omega)
      obtain ⟨cs, h6, hmu⟩ := MemL.at (MemL.below hBw hlt (unhide hm')) m u hu
      have HM := hide hmu
      rw [hdrop] at H
      have HD := hide (hasF_bd u s ni)
      obtain ⟨s1, s2, s3⟩ := unhide HS
      have x0 := (unhide HX).at0
      have x1 := (unhide HX).at1
      have lx := (unhide HX).low
      cases u with
      | mk k y c x t kk =>
        rw [Mem] at hmu
        obtain ⟨ht, hk, a', cap', rfl, _⟩ := hmu
        obtain ⟨u0, u1, u2, u3, u4, u5, hu6, c0, c1, c2, c3, c4, c5⟩ := h6
        simp only [Array.mk.injEq, List.cons.injEq, and_true] at hu6
        obtain ⟨rfl, rfl, rfl, rfl, rfl, rfl⟩ := hu6
        have hbn := below_new wr (.cells #[.int .i64 k, .bool y, .int .i64 c, .int .i64 x, .string t, .slice a' kk.length cap'] 35)
        have HBN := hide hbn
        have hBr : B ≤ wr.heap.size := by have := (unhide HB).size; omega
        have hrp : p < wr.heap.size := s3
        clear hu hdrop ht hk hbn hBw
        by_cases hmuch : 33554432 < ni
        · have hmuch' : (33554432 : Int) < (ni : Int) := by omega
          have H2 := hide ((unhide H).trans (allF_much (us := ks.drop (m + 1)) hmuch))
          have HS2 := hide ((unhide HS).below (unhide HBN) hrp)
          have HB2 := hide ((unhide HB).trans (But.of (unhide HBN)))
          clear H HS HB HU HM HD HX s1
          have s1 := (unhide HS2).1
          go_wp2
          go_ret
          rw [unhide H2]
          exact ⟨rfl, unhide HS2, unhide HB2⟩
        · have hmuch' : ¬ (33554432 : Int) < (ni : Int) := by omega
          have C := hide (unhide HU B _ _ p ni s (Mem.below ((unhide HBN).mono hBr) (unhide HM)) hp ((unhide HS).below (unhide HBN) hrp) (by omega) hs)
          have HX2 := hide ((unhide HX).keep (unhide HBN) lx)
          have HB2 := hide ((unhide HB).trans (But.of (unhide HBN)))
          have s1' := ((unhide HS).below (unhide HBN) hrp).1
          have x0' := (unhide HX2).at0
          have x1' := (unhide HX2).at1
          clear HU HM
          go_wp2_with fail
          refine (unhide C).mono ?_
          rintro e w2 ⟨rfl, hS2, hb2⟩
          have HS2 := hide hS2
          have HX3 := hide ((unhide HX2).but hb2 (by omega))
          have HB3 := hide ((unhide HB2).trans hb2)
          have hd2 := (unhide HD (by omega)).2
          clear hS2 hb2 C HX2 HB2 s1' x0' x1' x0 x1 c0 c1 c2 c3 c4 c5 s1 HD
          cases hr : (hasF (.mk k y c x t kk) s ni).1 with
          | true =>
            have H2 := hide ((unhide H).trans (allF_yes (us := ks.drop (m + 1)) hmuch hr))
            generalize hasF (.mk k y c x t kk) s ni = R at *
            clear hr H
            go_wp2
            go_roundw
            case rel => exact ⟨m + 1, R.2, by omega, by go_num, H2, hd2, HS2, HX3, HB3⟩
            case measure => simp [intOf]; omega
          | false =>
            have H2 := hide ((unhide H).trans (allF_no (us := ks.drop (m + 1)) hmuch hr))
            generalize hasF (.mk k y c x t kk) s ni = R at *
            clear hr H
            go_wp2
            go_ret
            rw [unhide H2]
            exact ⟨rfl, unhide HS2, unhide HB3⟩
    · obtain rfl : m = ks.length := by omega
      have H2 : Hid (allF ks s n = (true, ni)) := by
        have h := unhide H
        rw [List.drop_length, allF_nil] at h
        exact hide h
      go_wp2
      go_ret
      rw [unhide H2]
      exact ⟨rfl, unhide HS, unhide HB⟩
end Go.Proofs.YtjgonkcfnfgakaaGreatDoor
