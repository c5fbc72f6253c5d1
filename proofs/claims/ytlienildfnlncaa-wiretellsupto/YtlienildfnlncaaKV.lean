/- Walks: the document's Wrong. -/
import Derived.Test.YtlienildfnlncaaKR
namespace Go.Proofs.Ytlienildfnlncaa
open Go.RowKit

/-- what wrong tells of a tree -/
def LookC (T : WT) : Prop := ∀ (B : Nat) (w : World) (v : Array Value) (p c d : Nat), MemW B w T v → B ≤ p → St w p c → c ≤ 5000 → d ≤ 41 →
  Calls Try.prog 18 #[.pointer (some ⟨p, 0, none⟩), .agg v, .int .i64 (d : Int)] w fun e w' => e = .returned (.int .i64 (wrongW T d c).1) ∧ St w' p (wrongW T d c).2 ∧ But p w w'

set_option maxHeartbeats 4000000 in
theorem look_of (g n : Int) (t : ByteArray) (ks : List WT) (IH : ∀ u ∈ ks, LookC u) : LookC (.mk g n t ks) := by
  intro B w v p c d hM hp hS hc hd
  rw [MemW, MemWP] at hM
  obtain ⟨hn, ht, hk, a, cap, rfl, hks⟩ := hM
  have lp : p < w.heap.size := hS.2.2
  obtain ⟨W0, hW0⟩ : ∃ W0, W0 = ((w.setCell ⟨p, 0, none⟩ (.int .i64 ((c : Int) + 1))).alloc (.cells #[.int .i64 g, .int .i64 n, .string t, .slice a ks.length cap] 24)) := ⟨_, rfl⟩
  have b2 : Below (w.setCell ⟨p, 0, none⟩ (.int .i64 ((c : Int) + 1))).heap.size (w.setCell ⟨p, 0, none⟩ (.int .i64 ((c : Int) + 1))) W0 := by
    rw [hW0]
    exact below_new _ _
  have SW := hide ((St.inc hS).below b2 (St.inc hS).2.2)
  have BW := hide ((But.set (p := p) (j := 0) (w := w) (v := .int .i64 ((c : Int) + 1))).trans (But.of b2))
  have HK := hide hks
  have IH' := hide IH
  obtain ⟨s1, s2, s3⟩ := hS
  clear b2 hks IH
  by_cases h1 : 5000 < c + 1 ∨ 40 < d
  · rw [ww_much h1]
    by_cases h5 : 5000 < c + 1
    · have h5' : (5000 : Int) < (c : Int) + 1 := by omega
      go_enter Try.func18, Try.ntmps18
      go_wp2
      go_ret
      rw [← hW0]
      exact ⟨rfl, unhide SW, unhide BW⟩
    · have h5' : ¬ (5000 : Int) < (c : Int) + 1 := by omega
      have h6 : (40 : Int) < (d : Int) := by omega
      go_enter Try.func18, Try.ntmps18
      go_wp2
      go_ret
      rw [← hW0]
      exact ⟨rfl, unhide SW, unhide BW⟩
  have h5' : ¬ (5000 : Int) < (c : Int) + 1 := by omega
  have h6 : ¬ (40 : Int) < (d : Int) := by omega
  by_cases h2 : g < 0 ∨ 255 < g
  · rw [ww_tag h1 h2]
    by_cases h7 : g < 0
    · go_enter Try.func18, Try.ntmps18
      go_wp2
      go_ret
      rw [← hW0]
      exact ⟨rfl, unhide SW, unhide BW⟩
    · have h8 : 255 < g := by omega
      go_enter Try.func18, Try.ntmps18
      go_wp2
      go_ret
      rw [← hW0]
      exact ⟨rfl, unhide SW, unhide BW⟩
  have h7 : ¬ g < 0 := by omega
  have h8 : ¬ 255 < g := by omega
  rw [ww_kids h1 h2]
  clear h1 h2
  have hc1 : c + 1 ≤ 5000 := by omega
  have hd1 : d + 1 ≤ 41 := by omega
  go_enter Try.func18, Try.ntmps18
  go_wp2_with fail
  rw [← hW0]
  clear hW0 s1 s2 s3 h5'
  go_loopw [37] (fun i wr => ∃ m ci : Nat, m ≤ ks.length ∧ i = .int .i64 (m : Int) ∧ Hid (wrongL ks (d + 1) (c + 1) = wrongL (ks.drop m) (d + 1) ci) ∧ ci ≤ 5000 ∧ Hid (St wr p ci) ∧ Hid (But p w wr)) (fun i _ => ks.length - (intOf i).toNat)
  case atStart => exact ⟨0, c + 1, Nat.zero_le _, rfl, hide rfl, hc1, SW, BW⟩
  case round =>
    obtain ⟨m, ci, hml, rfl, H, hci, HS, HB⟩ := hrel
    clear SW BW
    by_cases hlt2 : m < ks.length
    · have hi1 : (m : Int) < (ks.length : Int) := by omega
      obtain ⟨u, hu⟩ : ∃ u, ks[m]? = some u := ⟨_, List.getElem?_eq_getElem hlt2⟩
      have hdrop : ks.drop m = u :: ks.drop (m + 1) := by
        rw [List.drop_eq_getElem_cons hlt2]
        congr 1
        rw [List.getElem?_eq_getElem hlt2] at hu
        exact Option.some.inj hu
      have HU := hide (unhide IH' u (List.mem_of_getElem? hu))
      obtain ⟨b, off, rfl, hbB, hm⟩ := unhide HK (by intro e; rw [e] at hlt2; simp at hlt2)
      have hBw : Below B w wr := (unhide HB).below hp (by omega)
      obtain ⟨cs, h6', hmu⟩ := MemWL.at (MemL.below hBw hbB hm) m u hu
      have HM := hide hmu
      rw [hdrop] at H
      have HD := hide (wrongW_bd u (d + 1) ci hci)
      obtain ⟨s1, s2, s3⟩ := unhide HS
      cases u with
      | mk g' n' t' kk =>
        rw [MemWP] at hmu
        obtain ⟨hn', ht', hk', a', cap', rfl, _⟩ := hmu
        obtain ⟨u0, u1, u2, u3, hu6, c0, c1, c2, c3⟩ := h6'
        simp only [Array.mk.injEq, List.cons.injEq, and_true] at hu6
        obtain ⟨rfl, rfl, rfl, rfl⟩ := hu6
        have hbn := below_new wr (.cells #[.int .i64 g', .int .i64 n', .string t', .slice a' kk.length cap'] 24)
        have HBN := hide hbn
        have hBr : B ≤ wr.heap.size := by have := (unhide HB).size; omega
        have hrp : p < wr.heap.size := s3
        clear hu hdrop ht' hk' hbn hBw hm HK
        have C := hide (unhide HU B _ _ p ci (d + 1) (MemW.below ((unhide HBN).mono hBr) (unhide HM)) hp ((unhide HS).below (unhide HBN) hrp) hci hd1)
        have HB2 := hide ((unhide HB).trans (But.of (unhide HBN)))
        clear HU HM
        go_wp2_with fail
        refine (unhide C).mono ?_
        rintro e w2 ⟨rfl, hS2, hb2⟩
        have HS2 := hide hS2
        have HB3 := hide ((unhide HB2).trans hb2)
        clear hS2 hb2 C HB2 c0 c1 c2 c3 s1
        by_cases hr : (wrongW (.mk g' n' t' kk) (d + 1) ci).1 = 0
        · have H2 := hide ((unhide H).trans (wl_yes (us := ks.drop (m + 1)) hr))
          have hd2 := (unhide HD).2 hr
          generalize wrongW (.mk g' n' t' kk) (d + 1) ci = R at *
          clear H HD
          go_wp2
          go_roundw
          case rel => exact ⟨m + 1, R.2, by omega, by go_num, H2, hd2, HS2, HB3⟩
          case measure => simp [intOf]; omega
        · have H2 := hide ((unhide H).trans (wl_no (us := ks.drop (m + 1)) hr))
          generalize wrongW (.mk g' n' t' kk) (d + 1) ci = R at *
          have hr' : (R.1 == 0) = false := by simpa using hr
          clear H HD
          go_wp2
          go_ret
          rw [unhide H2]
          exact ⟨rfl, unhide HS2, unhide HB3⟩
    · obtain rfl : m = ks.length := by omega
      have H2 : Hid (wrongL ks (d + 1) (c + 1) = (0, ci)) := by
        have h := unhide H
        rw [List.drop_length, wl_nil] at h
        exact hide h
      go_wp2
      go_ret
      rw [unhide H2]
      exact ⟨rfl, unhide HS, unhide HB⟩

mutual
theorem look_all : ∀ T : WT, LookC T
  | .mk g n t ks => look_of g n t ks (fun u h => look_alls ks u h)
theorem look_alls : ∀ (ks : List WT) (u : WT), u ∈ ks → LookC u
  | [], u, h => by cases h
  | v :: vs, u, h => by
    by_cases e : u = v
    · rw [e]; exact look_all v
    · exact look_alls vs u ((List.mem_cons.1 h).resolve_left e)
end

theorem rwrong_any (T : WT) (v : Array Value) (w : World) (hM : MemW w.heap.size w T v) :
    Calls Try.prog 7 #[.agg v] w fun e w' => e = .returned (.int .i64 (wrongF T)) ∧ Below w.heap.size w w' := by
  unfold wrongF
  have hM0 := hM
  cases T with
  | mk g n t ks =>
    rw [MemW, MemWP] at hM0
    obtain ⟨hn, ht, hk, a, cap, rfl, _⟩ := hM0
    have b1 : Below w.heap.size w ((w.alloc (.cells #[.int .i64 g, .int .i64 n, .string t, .slice a ks.length cap] 24)).alloc (.cells #[.int .i64 0] 44)) := (below_new _ _).alloc (by simp) _
    have C := hide (look_all (.mk g n t ks) w.heap.size _ _ (w.heap.size + 1) 0 1 (hM.below b1) (by omega) (show St ((w.alloc (.cells #[.int .i64 g, .int .i64 n, .string t, .slice a ks.length cap] 24)).alloc (.cells #[.int .i64 0] 44)) (w.heap.size + 1) 0 from ⟨by simp [go_sem], by simp [go_sem], by simp⟩) (by omega) (by omega))
    have HB := hide b1
    clear b1 hM
    go_enter Try.func7, Try.ntmps7
    go_wp2_with fail
    refine (unhide C).mono ?_
    rintro e w2 ⟨rfl, hS2, hb2⟩
    have HB2 := hide ((unhide HB).trans (hb2.below (B := w.heap.size) (by omega) (by simp; omega)))
    clear hS2 hb2 C HB
    go_wp2
    go_ret
    exact ⟨rfl, unhide HB2⟩
end Go.Proofs.Ytlienildfnlncaa
