/- Walks: slices.Repeat of one number, leadIfMost (raft). -/
import Derived.Test.YtiplnegiphhdlaaNK
import Derived.Test.YtiplnegiphhdlaaShRm
import Derived.Laws.CopyOwn
namespace Go.Proofs.Ytiplnegiphhdlaa
open Go.RowKit

theorem made_zeros (n : Nat) : (madeCells (Value.int .i64 0).cells (n * 1)).toList = ints (List.replicate n 0) := by
  rw [Nat.mul_one]
  show (madeCells #[Value.int .i64 0] n).toList = _
  rw [toList_madeCells_one]
  simp [ints]
theorem splice_reps (z : Int) (m k n : Nat) : splice (ints (List.replicate m z ++ List.replicate (n - m) 0)) m (ints (List.replicate k z)) = ints (List.replicate (m + k) z ++ List.replicate (n - (m + k)) 0) := by
  rw [splice]
  simp only [ints, List.map_append, List.map_replicate, List.length_replicate]
  rw [List.take_append_of_le_length (by simp), List.take_of_length_le (by simp), List.drop_append]
  simp only [List.length_replicate, List.drop_replicate]
  rw [show m - (m + k) = 0 by omega, show m + k - m = k by omega, List.replicate_zero, List.nil_append, ← List.append_assoc, List.replicate_append_replicate, show n - m - k = n - (m + k) by omega]

theorem own_full {w : World} {B g n : Nat} {e : TypeId} {xs : List Value} (h : w.ownsRow B e 1 (.slice (some ⟨g, 0, none⟩) n n) n xs) : w.heap[g]? = some (.cells xs.toArray e (0, 0)) := by
  rcases h.2 with ⟨h2, _⟩ | ⟨g', cap', cur, e1, hg, hc, hn, hm', hs, ht⟩
  · cases h2
  · cases e1
    rw [hc, ← ht, List.take_of_length_le (by rw [Array.length_toList, hs]; exact Nat.le_refl _)]
theorem full_own {w : World} {B g n : Nat} {e : TypeId} {xs : List Value} (h : w.heap[g]? = some (.cells xs.toArray e (0, 0))) (hB : B ≤ g) (hn : xs.length = n) (hm : n ≤ maxLen) : w.ownsRow B e 1 (.slice (some ⟨g, 0, none⟩) n n) n xs :=
  ⟨by omega, .inr ⟨g, n, xs.toArray, rfl, hB, h, Nat.le_refl _, hm, by rw [Nat.mul_one, ← hn]; simp, by rw [Nat.mul_one, ← hn]; simp⟩⟩
theorem made_facts {w w2 : World} {N sb : Nat} {z : Int} (ho2 : w2.ownsRow w.heap.size 3 1 (.slice (some ⟨w.heap.size, 0, none⟩) N N) N (madeCells (Value.int .i64 0).cells (N * 1)).toList) (hg2 : w.grownBy w2 none) (hs : w.cell? ⟨sb, 0, none⟩ = some (.int .i64 z)) (hsb : sb < w.heap.size) :
    Hid (w2.heap[w.heap.size]? = some (.cells (ints (List.replicate N 0)).toArray 3 (0, 0))) ∧ Hid (Below w.heap.size w w2) ∧ Hid (∀ j v, (ints (List.replicate 1 z))[j]? = some v → w2.cell? ((⟨sb, 0, none⟩ : Addr).add j) = some v) := by
  have hb2 : Below w.heap.size w w2 := own_old (World.ownsRow_nil w w.heap.size 3 1) hg2 (Nat.le_refl _)
  refine ⟨by rw [← made_zeros]; exact own_full ho2, hb2, fun j v hj => ?_⟩
  have h2 : w2.cell? ⟨sb, 0, none⟩ = some (.int .i64 z) := (World.cell?_of_block (a := ⟨sb, 0, none⟩) (hb2.block sb hsb)).trans hs
  cases j with
  | zero => simp [ints] at hj; subst hj; rw [Addr.add_lit]; exact h2
  | succ j => simp [ints] at hj
theorem reps_cell {w : World} {g : Nat} {t : TypeId} {z : Int} {m n k : Nat} (h : w.heap[g]? = some (.cells (ints (List.replicate m z ++ List.replicate n 0)).toArray t (0, 0))) (hk : k ≤ m) : ∀ j v, (ints (List.replicate k z))[j]? = some v → w.cell? ((⟨g, 0, none⟩ : Addr).add j) = some v := by
  intro j v hj
  rw [Addr.add_lit, Nat.zero_add]
  have hjk : j < k := by
    have := (List.getElem?_eq_some_iff.1 hj).1
    simpa [ints] using this
  have hv : v = .int .i64 z := by
    simp [ints, hjk] at hj
    exact hj.symm
  subst hv
  refine BK.at (t := t) (vs := (ints (List.replicate m z ++ List.replicate n 0)).toArray) h ?_
  simp [ints, List.getElem?_append, show j < m by omega]

end Go.Proofs.Ytiplnegiphhdlaa
namespace Go.Proofs.Ytiplnegiphhdlaa.RW
open Go.RowKit

set_option maxHeartbeats 4000000 in
set_option maxRecDepth 100000 in
theorem repeat_any (z : Int) (N sb : Nat) (h1 : 1 ≤ N) (h5 : N ≤ 5) (w : World) (hs : w.cell? ⟨sb, 0, none⟩ = some (.int .i64 z)) (hsb : sb < w.heap.size) :
    Calls Try.prog 51 #[.slice (some ⟨sb, 0, none⟩) 1 1, .int .i64 (N : Int)] w fun e w' => ∃ v', e = .returned v' ∧ w'.ownsRow w.heap.size 3 1 v' N (ints (List.replicate N z)) ∧ Below w.heap.size w w' := by
  obtain ⟨i0, I0, I1, I2, I3⟩ := info_parts info_I
  have I0' := hide I0
  have I1' := hide I1
  have I2' := hide I2
  have I3' := hide I3
  clear I0 I1 I2 I3
  have CM : Hid (∀ w, Calls Try.prog 53 #[.int .u64 1, .int .u64 (N : Int)] w fun e w' => e = .returned (.tuple #[.int .u64 0, .int .u64 (N : Int)]) ∧ w' = w) := hide (fun w => by
    have := Any.bits_Mul Try.lays212 1 N (by omega) (by omega) w
    rw [Nat.one_mul, show N / 18446744073709551616 = 0 by omega, show N % 18446744073709551616 = N by omega] at this
    exact this)
  have hN0 : ¬ (N : Int) < 0 := by omega
  have hN1 : (N : Int) ≤ 5 := by omega
  have eu : IntKind.u64.wrap (N : Int) = (N : Int) := by unfold IntKind.wrap; simp [IntKind.bits, IntKind.signed]; omega
  have ei : IntKind.i64.wrap (N : Int) = (N : Int) := wrap_i64 (by omega) (by omega)
  go_enter Try.func51, Try.ntmps51
  have hsz : (Try.prog.info? 3).map (·.size) = some 1 := by kernel_rfl
  have Hsz := hide hsz
  have HS := hide (And.intro hs hsb)
  clear hsz
  have b2 : Hid (i0.bytes * N ≤ 281474976710656) := hide (by rw [unhide I3']; omega)
  have HZ : Hid (∀ k, ∀ v ∈ ints (List.replicate k z), v.oneCell' = true) := hide (fun k => ints_one _)
  have HLn : ∀ k, (ints (List.replicate k z)).length = k := fun k => by simp [ints]
  have m1 : Nat.min 1 N = 1 := by simp only [Nat.min_def]; split <;> omega
  have HSS : Hid (∀ w2, w2.ownsRow w.heap.size 3 1 (.slice (some ⟨w.heap.size, 0, none⟩) N N) N (madeCells (Value.int .i64 0).cells (N * 1)).toList → w.grownBy w2 none → _) := hide (fun w2 ho2 hg2 => made_facts ho2 hg2 (unhide HS).1 (unhide HS).2)
  clear hs hsb
  go_upto_region 7 with (first
    | (go_at_call 53; refine (unhide CM _).mono ?_; rintro e w ⟨rfl, rfl⟩)
    | (at_make; refine wpList_make_full _ rfl _ _ 23 rfl _ 3 i0 (.int .i64 0) 1 Try.underlying23 (unhide I0') (unhide I1') (unhide I2') .i64 .i64 _ _ N rfl rfl rfl rfl (unhide b2) (by unfold maxLen; omega) (Nat.le_refl _) ?_; intro w2 ho2 hg2; obtain ⟨HG2, hb2, HC1⟩ := unhide HSS w2 ho2 hg2; clear ho2 hg2))
  go_wp2_with (refine wpList_copy_splice rfl _ _ 23 23 rfl 3 Try.underlying23 (unhide Hsz) _ _ N N 1 1 rfl rfl w.heap.size 0 _ 3 (unhide HG2) (ints (List.replicate 1 z)) (by rw [HLn, m1]) (fun _ => ⟨rfl, _, rfl, unhide HC1⟩) (by simp [ints]; omega) (unhide HZ 1) w.heap.size w (unhide hb2) (Nat.le_refl _) ?_; intro w3 hg3 hb3; clear HG2 hb2 HC1)
  have HG3 : Hid (w3.heap[w.heap.size]? = some (.cells (ints (List.replicate 1 z ++ List.replicate (N - 1) 0)).toArray 3 (0, 0))) := hide (by
    have := unhide hg3
    have e := splice_reps z 0 1 N
    rw [List.replicate_zero, List.nil_append, Nat.sub_zero, Nat.zero_add] at e
    rwa [e] at this)
  have HB3 := hide hb3
  clear hg3 hb3 HS m1 HSS
  go_loopw [8] (fun i wr => ∃ m : Nat, 1 ≤ m ∧ m ≤ N ∧ i = .int .i64 (m : Int) ∧ Hid (wr.heap[w.heap.size]? = some (.cells (ints (List.replicate m z ++ List.replicate (N - m) 0)).toArray 3 (0, 0))) ∧ Hid (Below w.heap.size w wr)) (fun i _ => N - (intOf i).toNat)
  case atStart => exact ⟨1, Nat.le_refl _, h1, by first | rfl | simp [ints] | (simp [goInt, ints]; done), HG3, HB3⟩
  case round =>
    obtain ⟨m, q1, q2, rfl, HG, HB⟩ := hrel
    clear HG3 HB3
    by_cases hlt : m < N
    · have l1 : (m : Int) < (N : Int) := by omega
      have l2 : (m : Int) ≤ (N : Int) := by omega
      have l3 : ¬ N = m := by omega
      have hlow := lt_of_block (unhide HG)
      obtain ⟨k, hk⟩ : ∃ k : Nat, k = Nat.min m (N - m) := ⟨_, rfl⟩
      have k1 : 1 ≤ k ∧ k ≤ m ∧ m + k ≤ N := by simp only [Nat.min_def] at hk; split at hk <;> omega
      have Hk := hide hk
      have ew : IntKind.i64.wrap ((m : Int) + (k : Int)) = ((m + k : Nat) : Int) := by rw [wrap_i64 (by omega) (by omega)]; omega
      have HGd : Hid (wr.drew.heap[w.heap.size]? = some (.cells (ints (List.replicate m z ++ List.replicate (N - m) 0)).toArray 3 (0, 0))) := HG
      have HCd : Hid (∀ j v, (ints (List.replicate k z))[j]? = some v → wr.drew.cell? ((⟨w.heap.size, 0, none⟩ : Addr).add j) = some v) := hide (reps_cell (w := wr.drew) (unhide HGd) k1.2.1)
      have HBd := hide (unhide HB).drew
      have Hfit : Hid (m + (ints (List.replicate k z)).length ≤ (ints (List.replicate m z ++ List.replicate (N - m) 0)).length) := hide (by simp [ints]; omega)
      have Hmn : Hid ((ints (List.replicate k z)).length = Nat.min m (N - m)) := hide (by rw [HLn]; exact unhide Hk)
      clear hk
      go_wp2_with fail
      go_region_held2 (fun _ => True) (trivial)
        ((refine step_copy_splice rfl _ _ 23 23 rfl 3 Try.underlying23 (unhide Hsz) (some ⟨w.heap.size, m, none⟩) (some ⟨w.heap.size, 0, none⟩) (N - m) (N - m) m N rfl rfl w.heap.size m _ 3 (unhide HGd) (ints (List.replicate k z)) (unhide Hmn) (fun _ => ⟨rfl, _, rfl, unhide HCd⟩) (unhide Hfit) (unhide HZ k) w.heap.size w (unhide HBd) (Nat.le_refl _) ?_; intro w4 hg4 hb4; rw [splice_reps] at hg4))
      all_goals
        have HG4 := hg4
        have HB4 := hide hb4
        clear hg4 hb4 HG HB
        go_wp2
        go_roundw
        case rel => exact ⟨m + k, by omega, by omega, by first | rfl | go_num, HG4, HB4⟩
        case measure => simp [intOf]; omega
    · obtain rfl : m = N := by omega
      have l1 : ¬ (m : Int) < (m : Int) := by omega
      go_wp2
      go_ret
      refine ⟨_, rfl, ?_, unhide HB⟩
      have := full_own (B := w.heap.size) (n := m) (unhide HG) (Nat.le_refl _) (by simp [ints]) (by unfold maxLen; omega)
      rwa [Nat.sub_self, List.replicate_zero, List.append_nil] at this

end Go.Proofs.Ytiplnegiphhdlaa.RW
