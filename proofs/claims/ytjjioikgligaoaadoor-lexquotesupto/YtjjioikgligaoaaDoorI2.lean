/- Walks: Utf8 of the reference. -/
import Derived.Test.YtjjioikgligaoaaDoorI1
namespace Go.Proofs.YtjjioikgligaoaaDoor
open Go.RowKit

/-- what Utf8 returns -/
def UtfRet (s : ByteArray) (w : World) (e : Ending) (w' : World) : Prop := (e = .returned (.bool false) ∨ (e = .returned (.bool true) ∧ Lib.validD s.data.toList = true)) ∧ w' = w

set_option maxHeartbeats 4000000 in
set_option maxRecDepth 100000 in
theorem utf8_any (s : ByteArray) (w : World) (hs : s.size ≤ 4000) :
    Calls Tryd.prog 8 #[.string s] w fun e w' => UtfRet s w e w' := by
  have hix : ∀ (k : Nat), k < s.size → ∀ W, (Instr.index 9 (.string s) (.int .i64 (k : Int))).run Tryd.prog W = .ok (.int .u8 (bt s k : Int)) W := by
    intro k hk W
    have e : ∀ h, s[((k : Int)).toNat]'h = s[k] := fun h => by congr 1
    rw [run_index_string _ _ _ _ _ Tryd.underlying9, dif_pos ⟨by omega, by omega⟩, e, bt_at s k hk]
  have hix2 : ∀ (k q : Nat), k + q < s.size → ∀ W, (Instr.index 9 (.string s) (.int .i64 ((k : Int) + (q : Int)))).run Tryd.prog W = .ok (.int .u8 (bt s (k + q) : Int)) W := by
    intro k q hk W
    have e : ∀ h, s[((k : Int) + (q : Int)).toNat]'h = s[k + q] := fun h => by congr 1
    rw [run_index_string _ _ _ _ _ Tryd.underlying9, dif_pos ⟨by omega, by omega⟩, e, bt_at s (k + q) hk]
  replace hix := hide hix
  replace hix2 := hide hix2
  go_enter Tryd.func8, Tryd.ntmps8
  go_wp2
  go_loop [3] (fun i => ∃ k : Nat, k ≤ s.size ∧ i = .int .i64 (k : Int) ∧ Hid (Lib.validD (s.data.toList.drop k) = true → Lib.validD s.data.toList = true)) (fun i => s.size - (intOf i).toNat)
  case atStart => exact ⟨0, Nat.zero_le _, rfl, hide (by simp)⟩
  case round =>
    obtain ⟨k, hk, rfl, HV⟩ := hrel
    by_cases hlt : k < s.size
    · have hltI : (k : Int) < (s.size : Int) := by omega
      have h0 := unhide hix k hlt
      have h256 := bt_lt s k
      have ON1 := hide (fun q => val_on1 hlt q)
      obtain ⟨b, hb⟩ : ∃ b, b = bt s k := ⟨_, rfl⟩
      have HB := hide hb
      rw [← hb] at h0 h256 ON1
      clear hb
      by_cases r1 : (b : Int) < 128
      · go_wp2
        go_round
        case rel => exact ⟨k + 1, by omega, by go_num, hide (fun q => unhide HV (unhide ON1 (by omega) q))⟩
        case measure => simp [intOf]; omega
      clear ON1
      by_cases r2 : (b : Int) < 192
      · have g1 : ¬ (192 : Int) ≤ (b : Int) := by omega
        have g2 : ¬ (224 : Int) ≤ (b : Int) := by omega
        have g3 : ¬ (240 : Int) ≤ (b : Int) := by omega
        go_wp2
        go_ret
        exact ⟨.inl rfl, rfl⟩
      by_cases t1 : (b : Int) < 224
      · have g1 : (192 : Int) ≤ (b : Int) := by omega
        by_cases hin : (s.size : Int) ≤ (k : Int) + 1
        · go_wp2
          go_ret
          exact ⟨.inl rfl, rfl⟩
        have ST := hide (UJ.start (s := s) (i := k) (n := 1) (c0 := (b : Int) - 192) (by omega) (by omega))
        go_wp2
        go_loop [4, 7] (fun c q => ∃ (cc : Int) (j : Nat), j ≤ 1 ∧ c = .int .i64 cc ∧ q = .int .i64 ((j + 1 : Nat) : Int) ∧ Hid (UJ s k 1 j ((b : Int) - 192) cc)) (fun _ q => 2 - (intOf q).toNat)
        case atStart => exact ⟨_, 0, by omega, rfl, rfl, ST⟩
        case round =>
          obtain ⟨cc, j, hj, rfl, rfl, HU⟩ := hrel
          clear ST
          have c1 := (unhide HU).lo
          have c2 := (unhide HU).top (by omega)
          by_cases hq : ((j + 1 : Nat) : Int) ≤ 1
          · have h1 := unhide hix2 k (j + 1) (by omega)
            have d256 := bt_lt s (k + (j + 1))
            have SU := hide (fun a c => (unhide HU).step (by omega) (by omega) a c)
            clear HU
            generalize bt s (k + (j + 1)) = d at *
            obtain ⟨q, hqj⟩ : ∃ q, q = j + 1 := ⟨_, rfl⟩
            have HQ := hide hqj
            rw [← hqj] at h1 hq
            simp only [← hqj]
            have hqB : q ≤ 4 := by omega
            clear hqj h0
            by_cases d1 : (d : Int) < 128
            · go_wp2
              go_ret
              exact ⟨.inl rfl, rfl⟩
            by_cases d2 : (192 : Int) ≤ (d : Int)
            · go_wp2
              go_ret
              exact ⟨.inl rfl, rfl⟩
            go_wp2
            go_round
            case rel => exact ⟨_, j + 1, by have := unhide HQ; omega, rfl, by rw [unhide HQ]; go_num, hide (unhide SU (by omega) (by omega))⟩
            case measure => simp [intOf]; have := unhide HQ; omega
          · obtain rfl : j = 1 := by omega
            by_cases p1 : cc < 128
            · go_wp2
              go_ret
              exact ⟨.inl rfl, rfl⟩
            by_cases p2 : (1114111 : Int) < cc
            · go_wp2
              go_ret
              exact ⟨.inl rfl, rfl⟩
            by_cases p3 : (55296 : Int) ≤ cc
            · by_cases p4 : cc < (57344 : Int)
              · go_wp2
                go_ret
                exact ⟨.inl rfl, rfl⟩
              · go_wp2
                go_round
                case rel => exact ⟨k + 2, by omega, by go_num, hide (fun q => unhide HV ((unhide HU).done (by omega) (.inl ⟨rfl, by rw [unhide HB], by have := unhide HB; omega, by have := unhide HB; omega, by omega⟩) q))⟩
                case measure => simp [intOf]; omega
            · go_wp2
              go_round
              case rel => exact ⟨k + 2, by omega, by go_num, hide (fun q => unhide HV ((unhide HU).done (by omega) (.inl ⟨rfl, by rw [unhide HB], by have := unhide HB; omega, by have := unhide HB; omega, by omega⟩) q))⟩
              case measure => simp [intOf]; omega
      by_cases t2 : (b : Int) < 240
      · have g1 : (224 : Int) ≤ (b : Int) := by omega
        have g2 : (192 : Int) ≤ (b : Int) := by omega
        by_cases hin : (s.size : Int) ≤ (k : Int) + 2
        · go_wp2
          go_ret
          exact ⟨.inl rfl, rfl⟩
        have ST := hide (UJ.start (s := s) (i := k) (n := 2) (c0 := (b : Int) - 224) (by omega) (by omega))
        go_wp2
        go_loop [4, 7] (fun c q => ∃ (cc : Int) (j : Nat), j ≤ 2 ∧ c = .int .i64 cc ∧ q = .int .i64 ((j + 1 : Nat) : Int) ∧ Hid (UJ s k 2 j ((b : Int) - 224) cc)) (fun _ q => 3 - (intOf q).toNat)
        case atStart => exact ⟨_, 0, by omega, rfl, rfl, ST⟩
        case round =>
          obtain ⟨cc, j, hj, rfl, rfl, HU⟩ := hrel
          clear ST
          have c1 := (unhide HU).lo
          have c2 := (unhide HU).top (by omega)
          by_cases hq : ((j + 1 : Nat) : Int) ≤ 2
          · have h1 := unhide hix2 k (j + 1) (by omega)
            have d256 := bt_lt s (k + (j + 1))
            have SU := hide (fun a c => (unhide HU).step (by omega) (by omega) a c)
            clear HU
            generalize bt s (k + (j + 1)) = d at *
            obtain ⟨q, hqj⟩ : ∃ q, q = j + 1 := ⟨_, rfl⟩
            have HQ := hide hqj
            rw [← hqj] at h1 hq
            simp only [← hqj]
            have hqB : q ≤ 4 := by omega
            clear hqj h0
            by_cases d1 : (d : Int) < 128
            · go_wp2
              go_ret
              exact ⟨.inl rfl, rfl⟩
            by_cases d2 : (192 : Int) ≤ (d : Int)
            · go_wp2
              go_ret
              exact ⟨.inl rfl, rfl⟩
            go_wp2
            go_round
            case rel => exact ⟨_, j + 1, by have := unhide HQ; omega, rfl, by rw [unhide HQ]; go_num, hide (unhide SU (by omega) (by omega))⟩
            case measure => simp [intOf]; have := unhide HQ; omega
          · obtain rfl : j = 2 := by omega
            by_cases p1 : cc < 2048
            · go_wp2
              go_ret
              exact ⟨.inl rfl, rfl⟩
            by_cases p2 : (1114111 : Int) < cc
            · go_wp2
              go_ret
              exact ⟨.inl rfl, rfl⟩
            by_cases p3 : (55296 : Int) ≤ cc
            · by_cases p4 : cc < (57344 : Int)
              · go_wp2
                go_ret
                exact ⟨.inl rfl, rfl⟩
              · go_wp2
                go_round
                case rel => exact ⟨k + 3, by omega, by go_num, hide (fun q => unhide HV ((unhide HU).done (by omega) (.inr (.inl ⟨rfl, by rw [unhide HB], by have := unhide HB; omega, by have := unhide HB; omega, by omega, by omega⟩)) q))⟩
                case measure => simp [intOf]; omega
            · go_wp2
              go_round
              case rel => exact ⟨k + 3, by omega, by go_num, hide (fun q => unhide HV ((unhide HU).done (by omega) (.inr (.inl ⟨rfl, by rw [unhide HB], by have := unhide HB; omega, by have := unhide HB; omega, by omega, by omega⟩)) q))⟩
              case measure => simp [intOf]; omega
      by_cases t3 : (b : Int) < 248
      · have g1 : (240 : Int) ≤ (b : Int) := by omega
        have g2 : (192 : Int) ≤ (b : Int) := by omega
        have g3 : (224 : Int) ≤ (b : Int) := by omega
        by_cases hin : (s.size : Int) ≤ (k : Int) + 3
        · go_wp2
          go_ret
          exact ⟨.inl rfl, rfl⟩
        have ST := hide (UJ.start (s := s) (i := k) (n := 3) (c0 := (b : Int) - 240) (by omega) (by omega))
        go_wp2
        go_loop [4, 7] (fun c q => ∃ (cc : Int) (j : Nat), j ≤ 3 ∧ c = .int .i64 cc ∧ q = .int .i64 ((j + 1 : Nat) : Int) ∧ Hid (UJ s k 3 j ((b : Int) - 240) cc)) (fun _ q => 4 - (intOf q).toNat)
        case atStart => exact ⟨_, 0, by omega, rfl, rfl, ST⟩
        case round =>
          obtain ⟨cc, j, hj, rfl, rfl, HU⟩ := hrel
          clear ST
          have c1 := (unhide HU).lo
          have c2 := (unhide HU).top (by omega)
          by_cases hq : ((j + 1 : Nat) : Int) ≤ 3
          · have h1 := unhide hix2 k (j + 1) (by omega)
            have d256 := bt_lt s (k + (j + 1))
            have SU := hide (fun a c => (unhide HU).step (by omega) (by omega) a c)
            clear HU
            generalize bt s (k + (j + 1)) = d at *
            obtain ⟨q, hqj⟩ : ∃ q, q = j + 1 := ⟨_, rfl⟩
            have HQ := hide hqj
            rw [← hqj] at h1 hq
            simp only [← hqj]
            have hqB : q ≤ 4 := by omega
            clear hqj h0
            by_cases d1 : (d : Int) < 128
            · go_wp2
              go_ret
              exact ⟨.inl rfl, rfl⟩
            by_cases d2 : (192 : Int) ≤ (d : Int)
            · go_wp2
              go_ret
              exact ⟨.inl rfl, rfl⟩
            go_wp2
            go_round
            case rel => exact ⟨_, j + 1, by have := unhide HQ; omega, rfl, by rw [unhide HQ]; go_num, hide (unhide SU (by omega) (by omega))⟩
            case measure => simp [intOf]; have := unhide HQ; omega
          · obtain rfl : j = 3 := by omega
            by_cases p1 : cc < 65536
            · go_wp2
              go_ret
              exact ⟨.inl rfl, rfl⟩
            by_cases p2 : (1114111 : Int) < cc
            · go_wp2
              go_ret
              exact ⟨.inl rfl, rfl⟩
            by_cases p3 : (55296 : Int) ≤ cc
            · by_cases p4 : cc < (57344 : Int)
              · go_wp2
                go_ret
                exact ⟨.inl rfl, rfl⟩
              · go_wp2
                go_round
                case rel => exact ⟨k + 4, by omega, by go_num, hide (fun q => unhide HV ((unhide HU).done (by omega) (.inr (.inr ⟨rfl, by rw [unhide HB], by have := unhide HB; omega, by have := unhide HB; omega, by omega, by omega⟩)) q))⟩
                case measure => simp [intOf]; omega
            · go_wp2
              go_round
              case rel => exact ⟨k + 4, by omega, by go_num, hide (fun q => unhide HV ((unhide HU).done (by omega) (.inr (.inr ⟨rfl, by rw [unhide HB], by have := unhide HB; omega, by have := unhide HB; omega, by omega, by omega⟩)) q))⟩
              case measure => simp [intOf]; omega
      have g4 : ¬ (b : Int) < 248 := by omega
      have g1 : (192 : Int) ≤ (b : Int) := by omega
      have g2 : (224 : Int) ≤ (b : Int) := by omega
      have g3 : (240 : Int) ≤ (b : Int) := by omega
      go_wp2
      go_ret
      exact ⟨.inl rfl, rfl⟩
    · have hltI : ¬ (k : Int) < (s.size : Int) := by omega
      go_wp2
      go_ret
      exact ⟨.inr ⟨rfl, unhide HV (by rw [List.drop_eq_nil_of_le (by rw [← Lib.size_eq]; omega)]; exact Lib.validD_nil)⟩, rfl⟩
end Go.Proofs.YtjjioikgligaoaaDoor
