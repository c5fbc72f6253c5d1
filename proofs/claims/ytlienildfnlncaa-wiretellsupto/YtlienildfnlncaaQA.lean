/- Walks: the document's number. -/
import Derived.Test.YtlienildfnlncaaKZ
namespace Go.Proofs.Ytlienildfnlncaa
open Go.RowKit

/-- the number at a place, and where it ends -/
def rnumR (l : List UInt8) (at' : Nat) : Int × Int := if (numF ⟨l.drop at', 0, false⟩).2.bad = true then (0, -1) else ((numF ⟨l.drop at', 0, false⟩).1, (l.length : Int) - ((numF ⟨l.drop at', 0, false⟩).2.l.length : Int))
def PostNum (w : World) (r : Int × Int) (e : Ending) (w' : World) : Prop := e = .returned (.tuple #[.int .u64 r.1, .int .i64 r.2]) ∧ w' = w
theorem rn_no {l : List UInt8} {p : Nat} (h : (numF ⟨l.drop p, 0, false⟩).2.bad = true) : rnumR l p = (0, -1) := by unfold rnumR; rw [if_pos h]
theorem rn_go {l : List UInt8} {p : Nat} {n : Nat} {s : RS} (h : numF ⟨l.drop p, 0, false⟩ = (n, s)) (hb : s.bad = false) : rnumR l p = ((n : Int), (l.length : Int) - (s.l.length : Int)) := by
  unfold rnumR
  rw [h, if_neg (by rw [hb]; decide)]

set_option maxHeartbeats 4000000 in
theorem rnum_any (l : List UInt8) (g off cap at0 : Nat) (w : World) (hl : l.length ≤ 100000) (hbc : BC w g off l) (ha : at0 ≤ l.length) :
    Calls Try.prog 34 #[.slice (some ⟨g, off, none⟩) l.length cap, .int .i64 (at0 : Int)] w (PostNum w (rnumR l at0)) := by
  have HC := hide hbc
  clear hbc
  go_enter Try.func34, Try.ntmps34
  go_wp2_with fail
  go_loopw [1, 6, 7, 8] (fun pv xv uv kv wr => ∃ (f k a p : Nat) (x u : Int), pv = .int .i64 (p : Int) ∧ xv = .int .u64 x ∧ uv = .int .u64 u ∧ kv = .int .i64 (k : Int) ∧ k ≤ 9 ∧ Hid (x = (a : Int) ∧ u = ((128 ^ k : Nat) : Int) ∧ a < 128 ^ k ∧ f + k = 9) ∧ p ≤ l.length ∧ Hid (numF ⟨l.drop at0, 0, false⟩ = numL (f + 1) k a ⟨l.drop p, 0, false⟩) ∧ wr = w) (fun _ _ _ kv _ => 10 - (intOf kv).toNat)
  case atStart => exact ⟨9, 0, 0, at0, 0, 1, rfl, rfl, rfl, rfl, by omega, hide ⟨rfl, rfl, by decide, rfl⟩, ha, hide rfl, rfl⟩
  case round =>
    obtain ⟨f, k, a, p, x, u, rfl, rfl, rfl, rfl, hk, HI, hp, H, rfl⟩ := hrel
    have hk' : (k : Int) < 10 := by omega
    by_cases hend : p < l.length
    · have hend' : ¬ (l.length : Int) ≤ (p : Int) := by omega
      have hend2 : (p : Int) < (l.length : Int) := by omega
      obtain ⟨y, hy⟩ : ∃ y, l[p]? = some y := ⟨_, List.getElem?_eq_getElem hend⟩
      have hcell := unhide HC p y hy
      have hdrop : l.drop p = y :: l.drop (p + 1) := by
        rw [List.drop_eq_getElem_cons hend]
        congr 1
        rw [List.getElem?_eq_getElem hend] at hy
        exact Option.some.inj hy
      have hyl := y.toNat_lt
      obtain ⟨c, hcE⟩ : ∃ c : Nat, y.toNat = c := ⟨_, rfl⟩
      rw [hcE] at hcell hyl
      have hnx : nextF ⟨l.drop p, 0, false⟩ = (c, ⟨l.drop (p + 1), 0, false⟩) := by rw [hdrop, next_cons, hcE]
      have HNX := hide hnx
      obtain ⟨hx1, hu1, ha1, hf1⟩ := unhide HI
      have HI2 : Hid (f + k = 9) := hide hf1
      have hp8 : k ≤ 8 → 128 ^ k ≤ 72057594037927936 := fun q => Nat.le_trans (Nat.pow_le_pow_right (by decide) q) (by decide)
      have hp9 : k = 9 → 128 ^ k = 9223372036854775808 := fun q => by rw [q]
      have hp1 : (p : Int) + 1 ≤ (l.length : Int) := by omega
      have HP1 := hide hp1
      clear hy hdrop hcE hnx hp1
      by_cases hbad : k = 9 ∧ 1 < c
      · have HE : Hid (rnumR l at0 = (0, -1)) := hide (rn_no (by rw [unhide H, nl_bad (by rw [unhide HNX]; exact .inl hbad)]; rfl))
        have k9 : ((k : Int) == 9) = true := by have := hbad.1; subst this; rfl
        have c1 : (1 : Int) < (c : Int) := by omega
        have cm : (c : Int) % 18446744073709551616 = (c : Int) := by omega
        obtain ⟨κ, hκ⟩ : ∃ κ : Int, (k : Int) = κ := ⟨_, rfl⟩
        rw [hκ] at hk' k9 ⊢
        clear hx1 hu1 ha1 hf1 hp8 hp9 hbad hyl hk HI hκ
        generalize (c : Int) = γ at *
        go_wp2
        go_ret2
        rw [unhide HE]
        exact ⟨rfl, rfl⟩
      · have k9 : ∃ z : Bool, ((k : Int) == 9) = z ∧ (z = true → (¬ (1 : Int) < (c : Int))) := ⟨_, rfl, fun q => by
          have : (k : Int) = 9 := by simpa using q
          omega⟩
        have hm : c % 128 < 128 := Nat.mod_lt _ (by decide)
        have hfit : c % 128 * 128 ^ k < 9223372036854775809 := by
          rcases Nat.lt_or_ge k 9 with q | q
          · have := Nat.mul_le_mul (Nat.le_of_lt hm) (hp8 (by omega)); omega
          · rw [hp9 (by omega)]
            have : c % 128 ≤ 1 := by omega
            have := Nat.mul_le_mul_right 9223372036854775808 this
            omega
        have ha2 : a < 9223372036854775808 := by
          rcases Nat.lt_or_ge k 9 with q | q
          · have := hp8 (by omega); omega
          · have := hp9 (by omega); omega
        have cm : (c : Int) % 18446744073709551616 = (c : Int) := by omega
        have c0 : (0 : Int) ≤ (c : Int) := by omega
        have c256 : (c : Int) < 256 := by omega
        obtain ⟨κ, hκ⟩ : ∃ κ : Int, (k : Int) = κ := ⟨_, rfl⟩
        rw [hκ] at hk' k9 ⊢
        have k0 : 0 ≤ κ := by omega
        obtain ⟨γ, hγ⟩ : ∃ γ : Int, (c : Int) = γ := ⟨_, rfl⟩
        rw [hγ] at cm c0 c256 k9 hcell
        have e1 : IntKind.u64.wrap (γ % 128 * u) = ((c % 128 * 128 ^ k : Nat) : Int) := by
          rw [hu1, ← hγ]
          have q : (c : Int) % 128 * ((128 ^ k : Nat) : Int) = ((c % 128 * 128 ^ k : Nat) : Int) := by simp
          rw [q, wraps_u64 _ (by omega) (by omega)]
        obtain ⟨M, hM⟩ : ∃ M : Nat, c % 128 * 128 ^ k = M := ⟨_, rfl⟩
        rw [hM] at e1 hfit
        obtain ⟨μ, hμ⟩ : ∃ μ : Int, (M : Int) = μ := ⟨_, rfl⟩
        rw [hμ] at e1
        obtain ⟨ρ, hρ⟩ : ∃ ρ : Int, ((a + M : Nat) : Int) = ρ := ⟨_, rfl⟩
        have e2 : IntKind.u64.wrap (x + μ) = ρ := by rw [hx1, ← hμ, ← hρ, wraps_u64 _ (by omega) (by omega)]; simp
        have HEnd : Hid (¬ (0 < k ∧ c = 0) → c < 128 → rnumR l at0 = (ρ, (p : Int) + 1)) := hide fun q q2 => by
          have hn := unhide H
          rw [nl_end (by rw [unhide HNX]; intro z; rcases z with z | z; exact hbad z; exact q z) (by rw [unhide HNX]; exact q2), unhide HNX] at hn
          rw [rn_go hn rfl, ← hρ, ← hM, Nat.mod_eq_of_lt q2]
          congr 1
          simp only [List.length_drop]
          have := unhide HP1
          omega
        have HBad : Hid ((0 < k ∧ c = 0) → rnumR l at0 = (0, -1)) := hide fun q => rn_no (by rw [unhide H, nl_bad (by rw [unhide HNX]; exact .inr q)]; rfl)
        have HGo : Hid (¬ c < 128 → ∃ f', f = f' + 1 ∧ k ≤ 8 ∧ numF ⟨l.drop at0, 0, false⟩ = numL (f' + 1) (k + 1) (a + M) ⟨l.drop (p + 1), 0, false⟩ ∧ a + M < 128 ^ (k + 1) ∧ IntKind.u64.wrap (u * 128) = ((128 ^ (k + 1) : Nat) : Int)) := hide fun q => by
          have hk8 : k ≤ 8 := by omega
          have h8 := hp8 hk8
          refine ⟨f - 1, by omega, hk8, ?_, ?_, ?_⟩
          · rw [unhide H, nl_go (by rw [unhide HNX]; intro z; rcases z with z | z; exact hbad z; exact absurd z.2 (by omega)) (by rw [unhide HNX]; exact q), unhide HNX, show f - 1 + 1 = f by omega]
            simp only
            rw [show c - 128 = c % 128 by omega, hM]
          · rw [pow128, ← hM]
            have := Nat.mul_le_mul_right (128 ^ k) (show c % 128 + 1 ≤ 128 by omega)
            rw [Nat.add_mul] at this
            omega
          · rw [hu1, pow128]
            have q2 : ((128 ^ k : Nat) : Int) * 128 = ((128 * 128 ^ k : Nat) : Int) := by rw [Nat.mul_comm]; simp
            rw [q2, wraps_u64 _ (by omega) (by omega)]
        have HKK := hide (And.intro hκ (And.intro hγ hk))
        have HRR := hide hρ
        clear hyl hx1 hu1 ha1 hf1 hp8 hp9 hbad hk HI hκ hγ hμ hρ hM hfit ha2 hm H HNX
        obtain ⟨z9, h9, h9'⟩ := k9
        by_cases h128 : γ < 128
        · have hc128 : c < 128 := by have := (unhide HKK).2.1; omega
          by_cases hz : γ = 0
          · by_cases hk0 : 0 < κ
            · have HE := hide (unhide HBad (by have := unhide HKK; omega))
              have h1 : ¬ 1 < γ := by omega
              have hz' : (γ == 0) = true := by simpa using hz
              clear HEnd HBad HGo h9' hz
              cases z9
              · go_wp2
                go_ret2
                rw [unhide HE]
                exact ⟨rfl, rfl⟩
              · go_wp2
                go_ret2
                rw [unhide HE]
                exact ⟨rfl, rfl⟩
            · have HE := hide (unhide HEnd (by have := unhide HKK; omega) hc128)
              have h1 : ¬ 1 < γ := by omega
              have hz' : (γ == 0) = true := by simpa using hz
              clear HEnd HBad HGo h9' hz
              cases z9
              · go_wp2
                go_ret2
                rw [unhide HE]
                exact ⟨rfl, rfl⟩
              · go_wp2
                go_ret2
                rw [unhide HE]
                exact ⟨rfl, rfl⟩
          · have hz' : (γ == 0) = false := by simpa using hz
            have HE := hide (unhide HEnd (by have := unhide HKK; omega) hc128)
            clear HEnd HBad HGo hz
            cases z9
            · clear h9'
              go_wp2
              go_ret2
              rw [unhide HE]
              exact ⟨rfl, rfl⟩
            · have h1 := h9' rfl
              clear h9'
              go_wp2
              go_ret2
              rw [unhide HE]
              exact ⟨rfl, rfl⟩
        · obtain ⟨f', hf', hk8, hN, hr, e3⟩ := unhide HGo (by have := (unhide HKK).2.1; omega)
          have hz9 : z9 = false := by
            cases z9
            · rfl
            · exact absurd (h9' rfl) (by omega)
          subst hz9
          obtain ⟨υ, hυ⟩ : ∃ υ : Int, ((128 ^ (k + 1) : Nat) : Int) = υ := ⟨_, rfl⟩
          rw [hυ] at e3
          have HF := hide (And.intro hf' (And.intro hk8 (And.intro hN (And.intro hr hυ))))
          have HI0 := HI2
          clear HEnd HBad HGo h9' hf' hk8 hN hr hυ
          go_wp2_with fail
          obtain ⟨e1', e2', hk9⟩ := unhide HKK
          subst e1'
          go_roundw
          case rel => exact ⟨f', k + 1, a + M, p + 1, ρ, υ, by go_num, rfl, rfl, by go_num, by have := (unhide HF).2.1; omega, hide ⟨(unhide HRR).symm, (unhide HF).2.2.2.2.symm, (unhide HF).2.2.2.1, by have := (unhide HF).1; have := unhide HI0; omega⟩, by have := unhide HP1; omega, hide (unhide HF).2.2.1, trivial⟩
          case measure => simp [intOf]; omega
    · have hend' : (l.length : Int) ≤ (p : Int) := by omega
      have HE : Hid (rnumR l at0 = (0, -1)) := by
        refine hide (rn_no ?_)
        have e : l.drop p = [] := List.drop_eq_nil_of_le (by omega)
        rw [unhide H, e, numL, next_nil]
        split
        · rfl
        · rw [if_pos (by simp)]
      clear HI H
      go_wp2
      go_ret2
      rw [unhide HE]
      exact ⟨rfl, rfl⟩
end Go.Proofs.Ytlienildfnlncaa
