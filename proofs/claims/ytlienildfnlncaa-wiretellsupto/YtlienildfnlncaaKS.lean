/- Bytes that came in. -/
import Derived.Test.YtlienildfnlncaaKN
namespace Go.Proofs.Ytlienildfnlncaa
open Go.ChangeShapes Go.WideShapes Go.ChangeAt Go.RowKit Go.Joins

theorem cellsU8 : Try.prog.cellsOf 5 = 1 := by kernel_rfl
theorem cells1 {w : World} {base : Nat} {a : Addr} {cs : List Value} (h : w.cells? base a 1 = some cs) : a.spot = none ∧ a.block < w.heap.size ∧ ∃ c, cs = [c] ∧ w.cell? ⟨a.block, a.off, none⟩ = some c := by
  unfold World.cells? at h
  split at h
  case isFalse => cases h
  simp only [show List.range 1 = [0] from rfl, List.mapM_cons, List.mapM_nil, Option.bind_eq_bind, Option.pure_def, Option.bind_eq_some_iff] at h
  obtain ⟨c0, h0, r1, q1, hcs⟩ := h
  cases q1
  have hs : a.spot = none := by
    have := cell_spotT h0
    simpa [Addr.add] using this
  have hb : a.block < w.heap.size := by
    have := World.block_lt_of_cell? w _ h0
    simpa [Addr.add] using this
  obtain ⟨b, o, sp⟩ := a
  simp only at hs
  subst hs
  simp only [Option.some.injEq] at hcs
  subst hcs
  exact ⟨rfl, hb, c0, rfl, by simpa [Addr.add] using h0⟩
theorem wf_u8 {n : Int} (h : (Lit.int .u8 n).wf = true) : 0 ≤ n ∧ n ≤ 255 := by
  simp [Lit.wf, IntKind.min, IntKind.max, IntKind.bits, IntKind.signed] at h
  omega
theorem wf_u32 {n : Int} (h : (Lit.int .u32 n).wf = true) : 0 ≤ n ∧ n < 4294967296 := by
  simp [Lit.wf, IntKind.min, IntKind.max, IntKind.bits, IntKind.signed] at h
  omega
section
variable {H : Type} {enc : TypeId × Value → H} {w : World} {base : Nat} {spare : Nat → Bool} {held : Bool}
set_option maxRecDepth 100000 in
theorem bytes_value {r : Reach} {b0 : Nat} {v : Value} {d : DataW H} {p : List MemPlace}
    (hv : Value.okWide Try.prog w r b0 25 v) (h : DataW.Trod enc Try.prog w base spare held 25 v d p) : ∃ l : List UInt8, BV w v l := by
  obtain ⟨sa, sl, sc, rfl⟩ := okWide_slice Try.underlying25 hv
  obtain ⟨fuel, hf⟩ := h
  rcases DataW.trod_slice Try.underlying25 hf with ⟨e5, _⟩ | ⟨a, len, cap, elems, rest, n', hn', e5, _, _, hlc, hm, hel, hat, _⟩
  · simp [Value.cells] at e5
    obtain ⟨rfl, rfl, rfl⟩ := e5
    exact ⟨[], none, 0, rfl, by simp, by omega, fun h => absurd rfl h⟩
  · simp [Value.cells] at e5
    obtain ⟨rfl, rfl, rfl⟩ := e5
    have each : ∀ i, i < sl → ∃ x : UInt8, ∃ cs', w.cells? base (a.add (i * 1)) 1 = some cs' ∧ cs' = [.int .u8 (x.toNat : Int)] := by
      intro i hi
      have := hat i hi
      rw [cellsU8, List.getElem?_eq_getElem (by omega), Option.bind_eq_some_iff] at this
      obtain ⟨cs', hc, ht2⟩ := this
      obtain ⟨z, e, _, hz⟩ := DataW.trod_int Try.underlying5 ht2
      have hz' := wf_u8 hz
      refine ⟨z.toNat.toUInt8, cs', hc, ?_⟩
      rw [e]
      have : ((z.toNat.toUInt8).toNat : Int) = z := by simp [Nat.toUInt8]; omega
      rw [this]
    obtain ⟨l, hl, hp⟩ := choose_listT sl each
    have hm' : sc ≤ 9223372036854775807 := by unfold maxLen at hm; omega
    refine ⟨l, some a, sc, by rw [hl], by omega, hm', fun hne => ?_⟩
    have hpos : 0 < sl := by
      rcases Nat.eq_zero_or_pos sl with e | e
      · rw [e] at hl; exact absurd (List.length_eq_zero_iff.1 hl) hne
      · exact e
    obtain ⟨_, cs0, hc0, _⟩ := each 0 hpos
    simp only [Nat.zero_mul] at hc0
    have h00 : a.add 0 = a := rfl
    rw [h00] at hc0
    obtain ⟨hsp, hblk, _⟩ := cells1 hc0
    obtain ⟨b, off, sp⟩ := a
    simp only at hsp hblk
    subst hsp
    refine ⟨b, off, rfl, hblk, fun i x hx => ?_⟩
    obtain ⟨cs', hc, hM⟩ := hp i x hx
    rw [Nat.mul_one, Addr.add_lit] at hc
    obtain ⟨_, _, c, e1, e2⟩ := cells1 hc
    rw [hM] at e1
    rw [e2, ← (List.cons.inj e1).1]
end
end Go.Proofs.Ytlienildfnlncaa
