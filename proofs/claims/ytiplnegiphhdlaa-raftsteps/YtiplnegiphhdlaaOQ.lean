/- What the document's functions end with: a node and messages, told from the block of what is returned. -/
import Derived.Test.YtiplnegiphhdlaaOP0
namespace Go.Proofs.Ytiplnegiphhdlaa
open Go.RowKit

theorem bk_out11 {w : World} {b r : Nat} {t : TypeId} {vs : Array Value} {v0 v1 v2 v3 v4 v5 v6 v7 v8 v9 v10 : Value} (h : BK w r t vs) (hne : r ≠ b) : BK (put11 w b v0 v1 v2 v3 v4 v5 v6 v7 v8 v9 v10) r t vs := by
  unfold put11
  exact ((((((((((h.other ⟨b, 0, none⟩ _ hne).other ⟨b, 1, none⟩ _ hne).other ⟨b, 2, none⟩ _ hne).other ⟨b, 3, none⟩ _ hne).other ⟨b, 4, none⟩ _ hne).other ⟨b, 5, none⟩ _ hne).other ⟨b, 6, none⟩ _ hne).other ⟨b, 7, none⟩ _ hne).other ⟨b, 8, none⟩ _ hne).other ⟨b, 9, none⟩ _ hne).other ⟨b, 10, none⟩ _ hne
section
variable {P : Nat → Prop} {w w7 w8 : World} {z : Rf.Node} {ms : List Rf.Msg} {u0 u1 u2 u3 u4 u5 u6 u7 u8 u9 u10 mv : Value}
theorem put11_heap (w : World) (b c : Nat) (hne : c ≠ b) (v0 v1 v2 v3 v4 v5 v6 v7 v8 v9 v10 : Value) : (put11 w b v0 v1 v2 v3 v4 v5 v6 v7 v8 v9 v10).heap[c]? = w.heap[c]? := by
  have hs : ∀ (u : World) (j : Nat) (y : Value), (u.setCell ⟨b, j, none⟩ y).heap[c]? = u.heap[c]? := fun u j y => Below.heap_setCell u ⟨b, j, none⟩ y c hne
  unfold put11
  simp only [hs]
theorem put11_size (w : World) (b : Nat) (v0 v1 v2 v3 v4 v5 v6 v7 v8 v9 v10 : Value) : (put11 w b v0 v1 v2 v3 v4 v5 v6 v7 v8 v9 v10).heap.size = w.heap.size := by simp [put11, World.setCell]
theorem nv_ret (hP : ∀ c, P c → c < w.heap.size) (hs : w.heap.size + 1 < w7.heap.size) (hv : NV (Aw P w.heap.size w7) w7 #[u0, u1, u2, u3, u4, u5, u6, u7, u8, u9, u10] z) (h8 : Below w7.heap.size w7 w8) : NV (fun c => P c ∨ Fresh w (put11 w8 (w.heap.size + 1) u0 u1 u2 u3 u4 u5 u6 u7 u8 u9 u10) c) (put11 w8 (w.heap.size + 1) u0 u1 u2 u3 u4 u5 u6 u7 u8 u9 u10) #[u0, u1, u2, u3, u4, u5, u6, u7, u8, u9, u10] z := by
  have s8 := h8.size
  refine hv.keep fun c hc => ⟨?_, ?_⟩
  · rcases hc with q | q
    · exact .inl q
    · refine .inr ⟨by omega, ?_⟩
      rw [put11_size]
      omega
  · have hlt := (Aw.lt hP (by omega) hc).1
    have hne : c ≠ w.heap.size + 1 := by
      rcases hc with q | q
      · have := hP c q; omega
      · omega
    rw [put11_heap _ _ _ hne]
    exact h8.block c hlt
theorem mv_ret (hs : w.heap.size + 1 < w7.heap.size) (hm : MV (Fresh w7 w8) w8 mv ms) : MV (Fresh w (put11 w8 (w.heap.size + 1) u0 u1 u2 u3 u4 u5 u6 u7 u8 u9 u10)) (put11 w8 (w.heap.size + 1) u0 u1 u2 u3 u4 u5 u6 u7 u8 u9 u10) mv ms := by
  refine hm.keep fun c hc => ⟨⟨by have := hc.1; omega, by rw [put11_size]; exact hc.2⟩, ?_⟩
  exact put11_heap _ _ _ (by have := hc.1; omega) _ _ _ _ _ _ _ _ _ _ _
theorem pnm_ret (hP : ∀ c, P c → c < w.heap.size) (hs : w.heap.size + 1 < w7.heap.size) (hv : NV (Aw P w.heap.size w7) w7 #[u0, u1, u2, u3, u4, u5, u6, u7, u8, u9, u10] z) (hB : Below w.heap.size w w7) (h8 : Below w7.heap.size w7 w8) (hm : MV (Fresh w7 w8) w8 mv ms) : PNM P w (z, ms) (.returned (.tuple #[.agg #[u0, u1, u2, u3, u4, u5, u6, u7, u8, u9, u10], mv])) (put11 w8 (w.heap.size + 1) u0 u1 u2 u3 u4 u5 u6 u7 u8 u9 u10) :=
  ⟨_, _, rfl, nv_ret hP hs hv h8, mv_ret hs hm, below_put11 (below_via hB h8) (by omega)⟩
theorem pnmb_ret {y : Bool} (hP : ∀ c, P c → c < w.heap.size) (hs : w.heap.size + 1 < w7.heap.size) (hv : NV (Aw P w.heap.size w7) w7 #[u0, u1, u2, u3, u4, u5, u6, u7, u8, u9, u10] z) (hB : Below w.heap.size w w7) (h8 : Below w7.heap.size w7 w8) (hm : MV (Fresh w7 w8) w8 mv ms) : PNMB P w (z, ms, y) (.returned (.tuple #[.agg #[u0, u1, u2, u3, u4, u5, u6, u7, u8, u9, u10], mv, .bool y])) (put11 w8 (w.heap.size + 1) u0 u1 u2 u3 u4 u5 u6 u7 u8 u9 u10) :=
  ⟨_, _, rfl, nv_ret hP hs hv h8, mv_ret hs hm, below_put11 (below_via hB h8) (by omega)⟩
theorem mv_ret2 (hm : MV (fun c => w.heap.size + 1 < c ∧ c < w8.heap.size) w8 mv ms) : MV (Fresh w (put11 w8 (w.heap.size + 1) u0 u1 u2 u3 u4 u5 u6 u7 u8 u9 u10)) (put11 w8 (w.heap.size + 1) u0 u1 u2 u3 u4 u5 u6 u7 u8 u9 u10) mv ms := by
  refine hm.keep fun c hc => ⟨⟨by have := hc.1; omega, by rw [put11_size]; exact hc.2⟩, ?_⟩
  exact put11_heap _ _ _ (by have := hc.1; omega) _ _ _ _ _ _ _ _ _ _ _
theorem pnm_ret2 (hP : ∀ c, P c → c < w.heap.size) (hs : w.heap.size + 1 < w8.heap.size) (hv : NV (Aw P w.heap.size w8) w8 #[u0, u1, u2, u3, u4, u5, u6, u7, u8, u9, u10] z) (hB : Below w.heap.size w w8) (hm : MV (fun c => w.heap.size + 1 < c ∧ c < w8.heap.size) w8 mv ms) : PNM P w (z, ms) (.returned (.tuple #[.agg #[u0, u1, u2, u3, u4, u5, u6, u7, u8, u9, u10], mv])) (put11 w8 (w.heap.size + 1) u0 u1 u2 u3 u4 u5 u6 u7 u8 u9 u10) :=
  ⟨_, _, rfl, nv_ret hP hs hv (Below.refl _ _), mv_ret2 hm, below_put11 hB (by omega)⟩
theorem pnmb_ret2 {y : Bool} (hP : ∀ c, P c → c < w.heap.size) (hs : w.heap.size + 1 < w8.heap.size) (hv : NV (Aw P w.heap.size w8) w8 #[u0, u1, u2, u3, u4, u5, u6, u7, u8, u9, u10] z) (hB : Below w.heap.size w w8) (hm : MV (fun c => w.heap.size + 1 < c ∧ c < w8.heap.size) w8 mv ms) : PNMB P w (z, ms, y) (.returned (.tuple #[.agg #[u0, u1, u2, u3, u4, u5, u6, u7, u8, u9, u10], mv, .bool y])) (put11 w8 (w.heap.size + 1) u0 u1 u2 u3 u4 u5 u6 u7 u8 u9 u10) :=
  ⟨_, _, rfl, nv_ret hP hs hv (Below.refl _ _), mv_ret2 hm, below_put11 hB (by omega)⟩
theorem pn_ret (hP : ∀ c, P c → c < w.heap.size) (hs : w.heap.size + 1 < w7.heap.size) (hv : NV (Aw P w.heap.size w7) w7 #[u0, u1, u2, u3, u4, u5, u6, u7, u8, u9, u10] z) (hB : Below w.heap.size w w7) : PN P w z (.returned (.agg #[u0, u1, u2, u3, u4, u5, u6, u7, u8, u9, u10])) (put11 w7 (w.heap.size + 1) u0 u1 u2 u3 u4 u5 u6 u7 u8 u9 u10) :=
  ⟨_, rfl, nv_ret hP hs hv (Below.refl _ _), below_put11 hB (by omega)⟩
end

end Go.Proofs.Ytiplnegiphhdlaa
