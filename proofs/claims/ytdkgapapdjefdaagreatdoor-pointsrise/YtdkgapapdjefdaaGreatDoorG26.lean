/- wrongAsked of the kind 4. -/
import Derived.Test.YtdkgapapdjefdaaGreatDoorG25
namespace Go.Proofs.YtdkgapapdjefdaaGreatDoor
open Go.RowKit

set_option maxRecDepth 100000 in
set_option maxHeartbeats 8000000 in
theorem asked_much4 (ts : List TS) (ad : Option Addr) (cap : Nat) (w : World) (h20 : 20 < ts.length) :
    Calls Tryz.prog 13 #[.int .i64 4, .slice ad ts.length cap] w fun e w' => e = .returned (.int .i64 5) ∧ Below w.heap.size w w' := by
  have h20' : (20 : Int) < (ts.length : Int) := by omega
  go_enter Tryz.func13, Tryz.ntmps13
  go_wp2
  go_ret
  exact ⟨rfl, Below.refl _ _⟩

set_option maxRecDepth 100000 in
set_option maxHeartbeats 8000000 in
theorem asked_4 (ts : List TS) (v : Value) (B : Nat) (w : World) (hB : B ≤ w.heap.size) (hv : SlT B w ts v) (hT : TabsIn B w) (h20 : ¬ 20 < ts.length) :
    Calls Tryz.prog 13 #[.int .i64 4, v] w fun e w' => e = .returned (.int .i64 (askL 4 ts)) ∧ Below w.heap.size w w' := by
  obtain ⟨hl, ad, cap, rfl, hm⟩ := hv
  have hm' := hide hm
  have W := hide (fun (T : TS) (q : Array Value) wx (hb : Below w.heap.size w wx) (hM : MemS B wx T q) => tWrong_any T q B wx (Nat.le_trans hB hb.size) hM (hT.below (hb.mono hB)))
  have F := hide (fun (T : TS) (q : Array Value) wx (hb : Below w.heap.size w wx) (hM : MemS B wx T q) (h0 : wrongS T 1 = 0) => tFits_any T q 4 (.slice none 0 0) B wx (Nat.le_trans hB hb.size) hM (hT.below (hb.mono hB)) h0)
  clear hT hm
  have h20' : ¬ (20 : Int) < (ts.length : Int) := by omega
  go_enter Tryz.func13, Tryz.ntmps13
  go_wp2
  go_loopw [23] (fun i wr => ∃ m : Nat, m ≤ ts.length ∧ i = .int .i64 (m : Int) ∧ Hid (askL 4 ts = askL 4 (ts.drop m)) ∧ Hid (Below w.heap.size w wr)) (fun i _ => ts.length - (intOf i).toNat)
  case atStart => exact ⟨0, Nat.zero_le _, rfl, hide rfl, hide (Below.refl _ _)⟩
  case round =>
    obtain ⟨m, hml, rfl, H, HB⟩ := hrel
    by_cases hlt2 : m < ts.length
    · have hi1 : (m : Int) < (ts.length : Int) := by omega
      obtain ⟨u, hu⟩ : ∃ u, ts[m]? = some u := ⟨_, List.getElem?_eq_getElem hlt2⟩
      obtain ⟨bl, off, rfl, hlt, hm⟩ := unhide hm' (by rintro rfl; simp at hlt2)
      have hdrop := sdrop_at hlt2 hu
      rw [hdrop] at H
      obtain ⟨cs, h6, hmu⟩ := MemSL.at (MemSL.below ((unhide HB).mono hB) hlt hm) m u hu
      have HMu := hide hmu
      have hwr : w.heap.size ≤ wr.heap.size := (unhide HB).size
      obtain ⟨U, hU⟩ : ∃ U, U = u := ⟨_, rfl⟩
      cases u with
      | mk k' ta tb oa' ob' kk =>
        rw [MemS] at hmu
        obtain ⟨_, d0, d1, d2, d3, d4, d5, e0, e1, e2, e3, e4, e5, ad', cp, hta, htb, rfl, _⟩ := hmu
        obtain ⟨y3, r3, x3, t3, l3, n3, p3, rfl, rfl, rfl, rfl, rfl, rfl⟩ := hta.six
        obtain ⟨y4, r4, x4, t4, l4, n4, p4, rfl, rfl, rfl, rfl, rfl, rfl⟩ := htb.six
        clear hta htb
        obtain ⟨c0, c1, c2, c3, c4, c5, c6, c7, c8, c9, c10, c11, c12, c13, c14, c15⟩ := h6.tell
        clear hu h6 hm hdrop
        rw [← hU] at H HMu
        clear hU
        go_wp2_with fail
        have hba := vbelow_new wr (.cells #[.int .i64 k', .int .i64 ta.kd, .bool y3, .int .i64 r3, .int .i64 x3, .string t3, .slice l3 n3 p3, .int .i64 tb.kd, .bool y4, .int .i64 r4, .int .i64 x4, .string t4, .slice l4 n4 p4, .bool oa', .bool ob', .slice ad' kk.length cp] 35)
        have B0 := B16.new (w := wr) (t := 35) (u := #[.int .i64 k', .int .i64 ta.kd, .bool y3, .int .i64 r3, .int .i64 x3, .string t3, .slice l3 n3 p3, .int .i64 tb.kd, .bool y4, .int .i64 r4, .int .i64 x4, .string t4, .slice l4 n4 p4, .bool oa', .bool ob', .slice ad' kk.length cp])
        refine (unhide W _ _ _ (bv (unhide HB) hba) (MemS.below (hba.mono (by omega)) (unhide HMu))).mono ?_
        rintro e w2 ⟨rfl, hb2⟩
        have HB2 := hide (bv (bv (unhide HB) hba) hb2)
        have HM2 := hide (MemS.below (hb2.mono (by simp; omega)) (MemS.below (hba.mono (by omega)) (unhide HMu)))
        have B1 := B0.keep hb2 (by simp)
        obtain ⟨f0, f1, f2, f3, f4, f5, f6, f7, f8, f9, f10, f11, f12, f13, f14, f15⟩ := B1.tell
        have hz2 : wr.heap.size < w2.heap.size := by have := hb2.size; simp at this; omega
        clear hb2 hba HB HMu B0 B1 c0 c1 c2 c3 c4 c5 c6 c7 c8 c9 c10 c11 c12 c13 c14 c15
        by_cases hw : wrongS U 1 = 0
        · have F1 := hide (fun wx (hb : Below w2.heap.size w2 wx) => unhide F U _ wx (bv (unhide HB2) hb) (MemS.below (hb.mono (Nat.le_trans hB (unhide HB2).size)) (unhide HM2)) hw)
          have hw1 : (wrongS U 1 != 0) = false := by simp [hw]
          have HW := hide hw
          rw [hw]
          clear hw hw1
          go_wp2_with fail
          refine (unhide F1 _ (Below.refl _ _)).mono ?_
          rintro e w3 ⟨rfl, hb3⟩
          have HB3 := hide (bv (unhide HB2) hb3)
          clear hb3 F1 HB2 HM2 f0 f1 f2 f3 f4 f5 f6 f7 f8 f9 f10 f11 f12 f13 f14 f15
          by_cases hf : fitsS U 4 = true
          · have H2 := hide ((unhide H).trans (askL_ok (unhide HW) hf))
            rw [hf]
            clear hf H
            go_wp2
            go_roundw
            case rel => exact ⟨m + 1, by omega, by go_num, H2, HB3⟩
            case measure => simp [intOf]; omega
          · rw [Bool.not_eq_true] at hf
            have H2 := hide ((unhide H).trans (askL_un (unhide HW) hf))
            rw [hf]
            clear hf H
            go_wp2
            go_ret
            rw [unhide H2]
            exact ⟨rfl, unhide HB3⟩
        · have hw1 : (wrongS U 1 != 0) = true := by simp [hw]
          have H2 := hide ((unhide H).trans (askL_no hw))
          clear hw H
          go_wp2
          go_ret
          rw [unhide H2]
          exact ⟨rfl, unhide HB2⟩
    · obtain rfl : m = ts.length := by omega
      have H2 := hide ((unhide H).trans (by rw [List.drop_length, askL]))
      go_wp2
      go_ret
      rw [unhide H2]
      exact ⟨rfl, unhide HB⟩
end Go.Proofs.YtdkgapapdjefdaaGreatDoor

/- wrongAsked of any kind and tests. -/
namespace Go.Proofs.YtdkgapapdjefdaaGreatDoor
open Go.RowKit

theorem asked_any (kind : Int) (ts : List TS) (v : Value) (B : Nat) (w : World) (hB : B ≤ w.heap.size) (hv : SlT B w ts v) (hT : TabsIn B w) :
    Calls Tryz.prog 13 #[.int .i64 kind, v] w fun e w' => e = .returned (.int .i64 (askW kind ts)) ∧ Below w.heap.size w w' := by
  by_cases hk' : ¬ kindOk kind
  · rw [askW, if_neg hk']
    exact asked_kind kind v w hk'
  have hk : kindOk kind := Decidable.not_not.1 hk'
  rw [askW, if_pos hk]
  by_cases h20 : 20 < ts.length
  · rw [if_pos h20]
    obtain ⟨_, ad, cap, rfl, _⟩ := hv
    rcases (hk : kind = 2 ∨ kind = 3 ∨ kind = 4) with rfl | rfl | rfl
    · exact asked_much2 ts ad cap w h20
    · exact asked_much3 ts ad cap w h20
    · exact asked_much4 ts ad cap w h20
  · rw [if_neg h20]
    rcases (hk : kind = 2 ∨ kind = 3 ∨ kind = 4) with rfl | rfl | rfl
    · exact asked_2 ts v B w hB hv hT h20
    · exact asked_3 ts v B w hB hv hT h20
    · exact asked_4 ts v B w hB hv hT h20
end Go.Proofs.YtdkgapapdjefdaaGreatDoor
