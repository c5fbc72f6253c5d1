/- A tree that came in, and how long its bytes are. -/
import Derived.Test.YtlienildfnlncaaQF
import Derived.Test.YtlienildfnlncaaRows
namespace Go.Proofs.Ytlienildfnlncaa
open Go.ChangeShapes Go.WideShapes Go.ChangeAt Go.RowKit Go.Joins
open Go.Lib (uvarint zigzag)

theorem bulk_enc {g z : Int} {t : ByteArray} {ks : List WT} {N : Nat} (hz : -9223372036854775808 ≤ z ∧ z ≤ 9223372036854775807) (ht : t.size ≤ 9223372036854775807) (hk : ks.length ≤ 9223372036854775807) (h : 31 + t.size + (encL ks).length ≤ N) : (enc (.mk g z t ks)).length ≤ N := by
  have a1 := Go.Lib.uvarint_length64 (zig_bd hz.1 hz.2)
  have a2 := Go.Lib.uvarint_length64 (x := t.size) (by omega)
  have a3 := Go.Lib.uvarint_length64 (x := ks.length) (by omega)
  have hs : t.data.toList.length = t.size := rfl
  rw [enc]
  simp only [List.length_cons, List.length_append, hs]
  omega
theorem bulk_kids {H : Type} : ∀ (ks : List WT) (ds : List (DataW H)), ks.length = ds.length → (∀ (i : Nat) (u : WT) (d : DataW H), ks[i]? = some u → ds[i]? = some d → (enc u).length ≤ 40 * Rows.uptoBulk d) → (encL ks).length ≤ 40 * Rows.uptoBulkAll ds
  | [], [], _, _ => by rw [encL]; simp
  | u :: us, d :: ds, h, hp => by
    have h1 := hp 0 u d rfl rfl
    have h2 := bulk_kids us ds (by simpa using h) (fun i v e hv he => hp (i + 1) v e (by simpa using hv) (by simpa using he))
    rw [encL, List.length_append]
    simp only [Rows.uptoBulkAll]
    omega
  | [], _ :: _, h, _ => by simp at h
  | _ :: _, [], h, _ => by simp at h

section
variable {H : Type} {en : TypeId × Value → H} {w : World} {base : Nat} {spare : Nat → Bool} {held : Bool}
set_option maxRecDepth 100000 in
theorem wtree_of2 : ∀ (fuel : Nat) (cs : List Value) (x : DataW H × List MemPlace), DataW.trod en Try.prog w base spare held fuel 24 cs = some x → ∃ T, MemW w.heap.size w T cs.toArray ∧ (enc T).length ≤ 40 * Rows.uptoBulk x.1 := by
  intro fuel
  induction fuel using Nat.strongRecOn with
  | _ fuel ih =>
    intro cs x hf
    obtain ⟨xs, n, hn, hx, hl, hlen, hf⟩ := DataW.trod_struct Try.underlying24 hf
    rw [cellsW] at hl
    obtain ⟨c0, c1, c2, c3, hcs⟩ := array4 (cs := cs.toArray) (by simpa using hl)
    obtain rfl : cs = [c0, c1, c2, c3] := by simpa using congrArg Array.toList hcs
    clear hcs
    have h0 := hf 0 _ rfl
    have h1 := hf 1 _ rfl
    have h2 := hf 2 _ rfl
    have h3 := hf 3 _ rfl
    simp [cellsInt, cellsI64, cellsStr, cellsWs] at h0 h1 h2 h3
    obtain ⟨y0, y1, y2, y3, rfl⟩ := list4 hlen
    simp at h0 h1 h2 h3
    obtain ⟨g, e0, f0, _⟩ := DataW.trod_int Try.underlying3 h0
    obtain ⟨z, e1, f1, hz⟩ := DataW.trod_int Try.underlying2 h1
    obtain ⟨t, e2, f2, ht⟩ := DataW.trod_string Try.underlying9 h2
    subst f0 f1 f2 hx
    simp at e0 e1 e2
    subst e0 e1 e2
    have hz' := wf_i64 hz
    have ht' : t.size ≤ 9223372036854775807 := by unfold maxLen at ht; omega
    rcases DataW.trod_slice Try.underlying22 h3 with ⟨e5, f5⟩ | ⟨a, len, cap, elems, rest, n', hn', e5, f5, _, hlc, hm, hel, hat, _⟩
    · simp at e5
      subst e5
      subst f5
      refine ⟨.mk g z t [], ?_, ?_⟩
      · rw [MemW, MemWP]
        exact ⟨hz', ht', by simp, none, 0, rfl, fun h => absurd rfl h⟩
      · refine bulk_enc hz' ht' (by simp) ?_
        rw [encL]
        simp only [List.map_cons, List.map_nil, Rows.uptoBulk, Rows.uptoBulkAll, List.length_nil]
        have : t.data.toList.length = t.size := rfl
        omega
    · simp at e5
      subst e5
      have each : ∀ i, i < len → ∃ T, ∃ cs', w.cells? base (a.add (i * 4)) 4 = some cs' ∧ MemW w.heap.size w T cs'.toArray ∧ ∀ d, (elems.map (·.1))[i]? = some d → (enc T).length ≤ 40 * Rows.uptoBulk d := by
        intro i hi
        have := hat i hi
        rw [cellsW, List.getElem?_eq_getElem (by omega), Option.bind_eq_some_iff] at this
        obtain ⟨cs', hc, ht2⟩ := this
        obtain ⟨T, hT, hbT⟩ := ih n' (by omega) cs' _ ht2
        refine ⟨T, cs', hc, hT, fun d hd => ?_⟩
        rw [List.getElem?_map, List.getElem?_eq_getElem (by omega), Option.map_some] at hd
        rw [← Option.some.inj hd]
        exact hbT
      obtain ⟨ks, hks, hp⟩ := choose_listT len each
      have hm' : cap ≤ 9223372036854775807 := by unfold maxLen at hm; omega
      subst f5
      refine ⟨.mk g z t ks, ?_, ?_⟩
      rotate_left
      · refine bulk_enc hz' ht' (by omega) ?_
        have hb := bulk_kids ks (elems.map (·.1)) (by rw [List.length_map]; omega) (fun i u d hu hd => by
          obtain ⟨_, _, _, q⟩ := hp i u hu
          exact q d hd)
        simp only [List.map_cons, List.map_nil, Rows.uptoBulk, Rows.uptoBulkAll]
        have : t.data.toList.length = t.size := rfl
        omega
      rw [MemW, MemWP]
      refine ⟨hz', ht', by omega, some a, cap, by rw [hks], fun hne => ?_⟩
      have hpos : 0 < len := by
        rcases Nat.eq_zero_or_pos len with e | e
        · rw [e] at hks; exact absurd (List.length_eq_zero_iff.1 hks) hne
        · exact e
      obtain ⟨_, cs0, hc0, _⟩ := each 0 hpos
      simp only [Nat.zero_mul] at hc0
      have h00 : a.add 0 = a := rfl
      rw [h00] at hc0
      obtain ⟨hsp, hblk, _⟩ := cells4 hc0
      obtain ⟨b, off, sp⟩ := a
      simp only at hsp hblk
      subst hsp
      refine ⟨b, off, rfl, hblk, memWL_of ks off fun i u hu => ?_⟩
      obtain ⟨cs', hc, hM, _⟩ := hp i u hu
      have h6 := (cells4 hc).2.2
      refine ⟨cs'.toArray, ?_, hM⟩
      by_cases hi0 : i = 0
      · subst hi0
        simpa [Addr.add] using h6
      · have hi6 : ¬ i * 4 = 0 := by omega
        rw [show (⟨b, off, none⟩ : Addr).add (i * 4) = ⟨b, off + i * 4, none⟩ by simp only [Addr.add, if_neg hi6]] at h6
        exact h6
set_option maxRecDepth 100000 in
theorem wtree_value2 {r : Reach} {b0 : Nat} {v : Value} {d : DataW H} {p : List MemPlace}
    (hv : Value.okWide Try.prog w r b0 24 v) (h : DataW.Trod en Try.prog w base spare held 24 v d p) :
    ∃ (T : WT) (u : Array Value), v = .agg u ∧ MemW w.heap.size w T u ∧ (enc T).length ≤ 40 * Rows.uptoBulk d := by
  obtain ⟨cs, rfl, hsz⟩ := okWide_struct Try.underlying24 hv
  obtain ⟨fuel, hf⟩ := h
  obtain ⟨T, hT, hbT⟩ := wtree_of2 fuel _ _ hf
  exact ⟨T, cs, rfl, by simpa [Value.cells] using hT, hbT⟩
end
end Go.Proofs.Ytlienildfnlncaa
