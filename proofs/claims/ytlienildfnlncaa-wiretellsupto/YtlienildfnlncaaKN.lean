/- Walks: Parse. -/
import Derived.Test.YtlienildfnlncaaKM
namespace Go.Proofs.Ytlienildfnlncaa
open Go.RowKit

/-- a slice of bytes that can be read -/
def BV (w : World) (v : Value) (l : List UInt8) : Prop := ∃ a cap, v = .slice a l.length cap ∧ l.length ≤ cap ∧ cap ≤ 9223372036854775807 ∧ (l ≠ [] → ∃ g off, a = some ⟨g, off, none⟩ ∧ g < w.heap.size ∧ BC w g off l)
theorem BV.keep {w w' : World} {v : Value} {l : List UInt8} (h : BV w v l) (hb : Below w.heap.size w w') : BV w' v l := by
  obtain ⟨a, cap, h1, h2, h3, h4⟩ := h
  refine ⟨a, cap, h1, h2, h3, fun hne => ?_⟩
  obtain ⟨g, off, e1, e2, e3⟩ := h4 hne
  exact ⟨g, off, e1, Nat.lt_of_lt_of_le e2 hb.size, e3.keep (fun o => hb.cell (p := ⟨g, o, none⟩) e2)⟩
theorem Own.bv {B : Nat} {w : World} {v : Value} {l : List UInt8} (h : Own B w v l) : BV w v l := by
  by_cases hl : l = []
  · subst hl
    rcases h.2 with ⟨rfl, _⟩ | ⟨g, cap, cur, rfl, hb, hg, hn, hm, _⟩
    · exact ⟨none, 0, rfl, by simp, by omega, fun h => absurd rfl h⟩
    · exact ⟨_, cap, rfl, hn, by unfold maxLen at hm; omega, fun h => absurd rfl h⟩
  · obtain ⟨g, cap, e1, e2, e3, _, e5, e6⟩ := h.shape hl
    exact ⟨_, cap, e1, e2, by unfold maxLen at e3; omega, fun _ => ⟨g, 0, rfl, e5, e6⟩⟩

def parseF (l : List UInt8) : Int × WT :=
  if 100000 < l.length then (4, zeroT) else if l.length < 4 then (2, zeroT)
  else if ¬ sumOf (l.drop (l.length - 4)) = (sumB (l.take (l.length - 4))).toNat then (8, zeroT)
  else if (treeF 40 ⟨l.take (l.length - 4), 0, false⟩).2.bad = true ∨ (treeF 40 ⟨l.take (l.length - 4), 0, false⟩).2.l ≠ [] then (2, zeroT)
  else (0, (treeF 40 ⟨l.take (l.length - 4), 0, false⟩).1)
theorem pf_much {l : List UInt8} (h : 100000 < l.length) : parseF l = (4, zeroT) := by unfold parseF; rw [if_pos h]
theorem pf_few {l : List UInt8} (h : ¬ 100000 < l.length) (h2 : l.length < 4) : parseF l = (2, zeroT) := by unfold parseF; rw [if_neg h, if_pos h2]
theorem pf_fit {l : List UInt8} {k : Nat} (h : ¬ 100000 < l.length) (hk : l.length = k + 4) (h3 : ¬ sumOf (l.drop k) = (sumB (l.take k)).toNat) : parseF l = (8, zeroT) := by
  unfold parseF
  rw [if_neg h, if_neg (by omega), show l.length - 4 = k by omega, if_pos h3]
theorem pf_form {l : List UInt8} {k : Nat} (h : ¬ 100000 < l.length) (hk : l.length = k + 4) (h3 : sumOf (l.drop k) = (sumB (l.take k)).toNat) (h4 : (treeF 40 ⟨l.take k, 0, false⟩).2.bad = true ∨ (treeF 40 ⟨l.take k, 0, false⟩).2.l ≠ []) : parseF l = (2, zeroT) := by
  unfold parseF
  rw [if_neg h, if_neg (by omega), show l.length - 4 = k by omega, if_neg (fun q => q h3), if_pos h4]
theorem pf_ok {l : List UInt8} {k : Nat} (h : ¬ 100000 < l.length) (hk : l.length = k + 4) (h3 : sumOf (l.drop k) = (sumB (l.take k)).toNat) (h4 : ¬ ((treeF 40 ⟨l.take k, 0, false⟩).2.bad = true ∨ (treeF 40 ⟨l.take k, 0, false⟩).2.l ≠ [])) : parseF l = (0, (treeF 40 ⟨l.take k, 0, false⟩).1) := by
  unfold parseF
  rw [if_neg h, if_neg (by omega), show l.length - 4 = k by omega, if_neg (fun q => q h3), if_neg h4]
def PostP (w : World) (r : Int × WT) (e : Ending) (w' : World) : Prop := ∃ cs, e = .returned (.tuple #[.agg cs, .int .i64 r.1]) ∧ MemWP (fun b => w.heap.size ≤ b ∧ b < w'.heap.size) w' r.2 cs ∧ Below w.heap.size w w'

theorem four_of {l : List UInt8} (h : l.length = 4) : ∃ a b c d, l = [a, b, c, d] := by
  match l, h with
  | [a, b, c, d], _ => exact ⟨a, b, c, d, rfl⟩

theorem below_put4' {w w3 : World} {v0 v1 v2 v3 : Value} (h : Below w.heap.size w w3) : Below w.heap.size w (put4 w3 w.heap.size v0 v1 v2 v3) :=
  (((h.setCell (p := ⟨w.heap.size, 0, none⟩) (Nat.le_refl _) v0).setCell (p := ⟨w.heap.size, 1, none⟩) (Nat.le_refl _) v1).setCell (p := ⟨w.heap.size, 2, none⟩) (Nat.le_refl _) v2).setCell (p := ⟨w.heap.size, 3, none⟩) (Nat.le_refl _) v3
theorem below_put4 {w w3 : World} {v0 v1 v2 v3 : Value} {o : Obj} (h : Below w.heap.size w w3) : Below w.heap.size w ((put4 w3 w.heap.size v0 v1 v2 v3).alloc o) :=
  (below_put4' h).alloc (by rw [put4_size]; exact h.size) o

set_option maxHeartbeats 4000000 in
theorem parse_any (w : World) (v : Value) (l : List UInt8) (h : BV w v l) : Calls Try.prog 13 #[v] w (PostP w (parseF l)) := by
  obtain ⟨a, cap, rfl, hcap, hc63, hk⟩ := h
  have HB0 := hide (below_new w (.cells #[.int .i64 0, .int .i64 0, .string ⟨#[]⟩, .slice none 0 0] 24))
  by_cases hmuch : 100000 < l.length
  · have hm' : (100000 : Int) < (l.length : Int) := by omega
    rw [pf_much hmuch]
    clear hk hmuch
    go_enter Try.func13, Try.ntmps13
    go_wp2
    exact bodyPost_ret (v := .tuple #[.agg #[.int .i64 0, .int .i64 0, .string ⟨#[]⟩, .slice none 0 0], .int .i64 4]) (by simp [results, Try.results13, go_sem]) rfl ⟨_, rfl, MemWP.zero _ _, unhide HB0⟩
  have hm' : ¬ (100000 : Int) < (l.length : Int) := by omega
  by_cases hfew : l.length < 4
  · have hf' : (l.length : Int) < 4 := by omega
    rw [pf_few hmuch hfew]
    clear hk hmuch hfew
    go_enter Try.func13, Try.ntmps13
    go_wp2
    exact bodyPost_ret (v := .tuple #[.agg #[.int .i64 0, .int .i64 0, .string ⟨#[]⟩, .slice none 0 0], .int .i64 2]) (by simp [results, Try.results13, go_sem]) rfl ⟨_, rfl, MemWP.zero _ _, unhide HB0⟩
  obtain ⟨k, hkl⟩ : ∃ k, l.length = k + 4 := ⟨l.length - 4, by omega⟩
  obtain ⟨g, off, rfl, hg, hbc⟩ := hk (by intro e; rw [e] at hkl; simp at hkl)
  have HF := hide (fun q => pf_fit hmuch hkl q)
  have HG := hide (fun q r => pf_form hmuch hkl q r)
  have HO := hide (fun q r => pf_ok hmuch hkl q r)
  rw [hkl] at hm' hcap ⊢
  have hf' : ¬ ((k : Int) + 4 < 4) := by omega
  have hm2 : ¬ (100000 : Int) < (k : Int) + 4 := by omega
  have hc1 : (k : Int) ≤ (cap : Int) := by omega
  have hc2 : (k : Int) + 4 ≤ (cap : Int) := by omega
  have hc3 : ¬ cap = k := by omega
  have hc4 : (k : Int) ≤ (k : Int) + 4 := by omega
  obtain ⟨W0, hW0⟩ : ∃ W0, W0 = w.alloc (.cells #[.int .i64 0, .int .i64 0, .string ⟨#[]⟩, .slice none 0 0] 24) := ⟨_, rfl⟩
  rw [← hW0] at HB0
  have Z0 : Bx W0 w.heap.size (.int .i64 0) (.int .i64 0) (.string ⟨#[]⟩) (.slice none 0 0) := by rw [hW0]; exact Bx.new _ _ _ _ _ _
  have hbc0 : BC W0 g off l := hbc.keep (fun o => (unhide HB0).cell (p := ⟨g, o, none⟩) hg)
  have hbcT : BC W0 g off (l.take k) := fun i x hi => by
    rw [List.getElem?_take] at hi
    split at hi
    · exact hbc0 i x hi
    · cases hi
  have hbcD : BC W0 g (off + k) (l.drop k) := fun i x hi => by
    rw [List.getElem?_drop] at hi
    have := hbc0 (k + i) x hi
    rwa [show off + (k + i) = off + k + i by omega] at this
  have hTl : (l.take k).length = k := by simp; omega
  obtain ⟨b0, b1, b2, b3, hD⟩ := four_of (l := l.drop k) (by simp; omega)
  rw [hD] at hbcD
  have C1 := hide (sumAt_any b0 b1 b2 b3 g (off + k) (cap - k) W0 hbcD)
  have HZ0 := hide Z0
  have HT := hide hbcT
  have HTl := hide hTl
  have HD := hide hD
  clear hbc hbc0 hbcT hbcD hTl hD Z0 hmuch hfew hkl hk
  go_enter Try.func13, Try.ntmps13
  go_wp2_with fail
  rw [← hW0]
  clear hW0
  refine (unhide C1).mono ?_
  rintro e w1 ⟨rfl, hb1⟩
  have hs0 := (unhide HB0).size
  have C2 := hide (sum_any (l.take k) g off cap w1 (by rw [unhide HTl]; omega) ((unhide HT).keep (fun o => hb1.cell (p := ⟨g, o, none⟩) (by simp only; omega))))
  rw [unhide HTl] at C2
  have HB1 := hide ((unhide HB0).trans (hb1.mono hs0))
  have HZ1 := hide ((unhide HZ0).keep hb1)
  have HT1 := hide ((unhide HT).keep (fun o => hb1.cell (p := ⟨g, o, none⟩) (by simp only; omega)))
  rw [← unhide HD]
  obtain ⟨S1, hS1⟩ : ∃ S1, sumOf (l.drop k) = S1 := ⟨_, rfl⟩
  obtain ⟨S2, hS2⟩ : ∃ S2, (sumB (l.take k)).toNat = S2 := ⟨_, rfl⟩
  rw [hS1]
  rw [hS2] at C2
  have HS := hide (And.intro hS1 hS2)
  clear C1 HB0 HZ0 HT HD hb1 hS1 hS2
  go_wp2_with fail
  refine (unhide C2).mono ?_
  rintro e wx ⟨rfl, hwx⟩
  replace hwx := hwx.symm
  subst hwx
  clear C2
  have lz := (unhide HZ1).low
  obtain ⟨z0, z1, z2, z3⟩ := (unhide HZ1).tell
  obtain ⟨f0, f1, f2, f3⟩ := (unhide HZ1).thaw
  by_cases hS : S1 = S2
  · subst hS
    have HR := hide (unhide HS)
    obtain ⟨W2, hW2⟩ : ∃ W2, W2 = w1.alloc (.cells #[.slice (some ⟨g, off, none⟩) k cap, .int .i64 0, .bool false] 53) := ⟨_, rfl⟩
    have b2' : Below w1.heap.size w1 W2 := by rw [hW2]; exact below_new _ _
    have hs1 := (unhide HB1).size
    have R2 : RD W2 w1.heap.size g ⟨l.take k, 0, false⟩ off cap := by
      refine ⟨by rw [hW2]; simp, Nat.lt_of_lt_of_le (Nat.lt_of_lt_of_le hg hs1) b2'.size, by omega, ?_, ?_, ?_, ?_, ?_, ?_, (unhide HT1).keep (fun o => b2'.cell (p := ⟨g, o, none⟩) (by simp only; omega)), by simp only; rw [unhide HTl]; omega, hc63⟩
      · simp only; rw [unhide HTl, hW2]; simp [go_sem]
      · rw [hW2]; simp [go_sem]
      · rw [hW2]; simp [go_sem]
      · rw [hW2]; simp [go_sem]
      · rw [hW2]; simp [go_sem]
      · rw [hW2]; simp [go_sem]
    have C3 := hide (tree_all 40 (Nat.le_refl _) W2 w1.heap.size g _ off cap R2 (by simp))
    rw [show (41 : Int) - ((40 : Nat) : Int) = 1 from rfl] at C3
    have HB2 := hide ((unhide HB1).trans (b2'.mono hs1))
    have HZ2 := hide ((unhide HZ1).keep b2')
    have hb2s := b2'.size
    clear b2' R2 HZ1 HB1 HT1
    go_wp2_with fail
    rw [← hW2]
    clear hW2 z0 z1 z2 z3 f0 f1 f2 f3
    refine (unhide C3).mono ?_
    rintro e w3 ⟨cs, rfl, hM3, ⟨off3, cap3, R3⟩, hb3⟩
    obtain ⟨eg, en, et, ea, el, ec, rfl⟩ := hM3.four
    have HZ3 := hide ((unhide HZ2).but hb3 (by omega))
    have hb3' : Below w.heap.size w w3 := (unhide HB2).trans (hb3.below (by omega) (by omega))
    have HB3 := hide hb3'
    have hs3 := hb3.size
    have HM3 : Hid (MemWP (fun b => w.heap.size + 1 ≤ b ∧ b < w3.heap.size) w3 (treeF 40 ⟨l.take k, 0, false⟩).1 #[.int .i64 eg, .int .i64 en, .string et, .slice ea el ec]) :=
      hide (hM3.keepB (fun b hb => ⟨⟨by have := hb.1; omega, hb.2⟩, rfl⟩))
    clear C3 HZ2 HB2 hM3 hb3 hb3'
    obtain ⟨z0, z1, z2, z3⟩ := (unhide HZ3).tell
    obtain ⟨f0, f1, f2, f3⟩ := (unhide HZ3).thaw
    have lz3 := (unhide HZ3).low
    have c0 := R3.c0
    have c2 := R3.c2
    have l3 := R3.low
    clear R3
    obtain ⟨T, hT⟩ : ∃ T, treeF 40 ⟨l.take k, 0, false⟩ = T := ⟨_, rfl⟩
    rw [hT] at HG HO HM3 c0 c2
    clear hT
    have eS := unhide HR
    have HES := hide (eS.1.trans eS.2.symm)
    clear eS HR HS hc1 hc2 hc3 hc4 hm2 hf' hm' hcap hc63
    have FE := hide (fun v0 v1 v2 v3 o => below_put4 (v0 := v0) (v1 := v1) (v2 := v2) (v3 := v3) (o := o) (unhide HB3))
    have FM : Hid (∀ v0 v1 v2 v3 o, MemWP (fun b => w.heap.size ≤ b ∧ b < ((put4 w3 w.heap.size v0 v1 v2 v3).alloc o).heap.size) ((put4 w3 w.heap.size v0 v1 v2 v3).alloc o) T.1 #[.int .i64 eg, .int .i64 en, .string et, .slice ea el ec]) :=
      hide fun v0 v1 v2 v3 o => (unhide HM3).keepB fun b hb => ⟨⟨by omega, by simp only [World.size_alloc, put4_size]; omega⟩, (Below.heap_alloc _ _ _ (by rw [put4_size]; exact hb.2)).trans (put4_block _ _ _ _ _ _ b (by omega))⟩
    clear HB3 HM3 HZ3
    by_cases hbad : T.2.bad = true
    · have HQ := hide (unhide HG (unhide HES) (.inl hbad))
      rw [hbad] at c2
      clear hbad HO HG HES
      go_wp2
      refine bodyPost_ret (v := .tuple #[.agg #[.int .i64 0, .int .i64 0, .string ⟨#[]⟩, .slice none 0 0], .int .i64 2]) (by simp [results, Try.results13, go_sem, z0, z1, z2, z3, lz3]) rfl ?_
      rw [unhide HQ]
      exact ⟨_, rfl, MemWP.zero _ _, unhide FE _ _ _ _ _⟩
    · have hbf : T.2.bad = false := by simpa using hbad
      rw [hbf] at c2
      by_cases hl : T.2.l = []
      · have HQ := hide (unhide HO (unhide HES) (fun q => q.elim hbad (fun q => q hl)))
        rw [hl] at c0
        simp only [List.length_nil] at c0
        clear hbad hbf hl HO HG HES
        go_wp2
        refine bodyPost_ret (v := .tuple #[.agg #[.int .i64 eg, .int .i64 en, .string et, .slice ea el ec], .int .i64 0]) (by simp [results, Try.results13, go_sem, z0, z1, z2, z3, lz3]) rfl ?_
        rw [unhide HQ]
        exact ⟨_, rfl, unhide FM _ _ _ _ _, unhide FE _ _ _ _ _⟩
      · have HQ := hide (unhide HG (unhide HES) (.inr hl))
        have hl' : (0 : Int) < (T.2.l.length : Int) := by
          have : 0 < T.2.l.length := List.length_pos_iff.2 hl
          omega
        clear hbad hbf hl HO HG HES
        go_wp2
        refine bodyPost_ret (v := .tuple #[.agg #[.int .i64 0, .int .i64 0, .string ⟨#[]⟩, .slice none 0 0], .int .i64 2]) (by simp [results, Try.results13, go_sem, z0, z1, z2, z3, lz3]) rfl ?_
        rw [unhide HQ]
        exact ⟨_, rfl, MemWP.zero _ _, unhide FE _ _ _ _ _⟩
  · have HQ : Hid (parseF l = (8, zeroT)) := hide (unhide HF (by rw [(unhide HS).1, (unhide HS).2]; exact hS))
    have FE := hide (fun v0 v1 v2 v3 => below_put4' (v0 := v0) (v1 := v1) (v2 := v2) (v3 := v3) (unhide HB1))
    have hS' : ((S1 : Int) == (S2 : Int)) = false := by
      have : ¬ (S1 : Int) = (S2 : Int) := by omega
      simpa using this
    clear HF HG HO HS hS HT1 HZ1 HB1 HTl hc1 hc2 hc3 hc4 hm2 hf' hm' hcap hc63
    generalize (S1 : Int) = x1 at *
    generalize (S2 : Int) = x2 at *
    go_wp2
    refine bodyPost_ret (v := .tuple #[.agg #[.int .i64 0, .int .i64 0, .string ⟨#[]⟩, .slice none 0 0], .int .i64 8]) (by simp [results, Try.results13, go_sem, z0, z1, z2, z3]) rfl ?_
    rw [unhide HQ]
    exact ⟨_, rfl, MemWP.zero _ _, unhide FE _ _ _ _⟩
end Go.Proofs.Ytlienildfnlncaa
