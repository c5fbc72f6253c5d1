/- Two blocks of nodes that the law of steps keeps (plain; no walk). -/
import Derived.Test.YtiplnegiphhdlaaOQ
import Derived.Test.YtiplnegiphhdlaaMT
namespace Go.Proofs.Ytiplnegiphhdlaa
open Go.RowKit

/-- old enough, and none of two blocks -/
def Q2 (A B : Nat) (w : World) (c : Nat) : Prop := c < w.heap.size ∧ c ≠ A ∧ c ≠ B

/-- block A holds a node; what hangs on it, and its messages, lie elsewhere than in A and B -/
structure LA (A B : Nat) (w : World) (u : Array Value) (z : Rf.Node) (m : Value) (zm : List Rf.Msg) : Prop where
  bk : BK w A 25 u
  nv : NV (Q2 A B w) w u z
  mv : MV (Q2 A B w) w m zm

theorem LA.keep {A B : Nat} {w w' : World} {u : Array Value} {z : Rf.Node} {m : Value} {zm : List Rf.Msg} (h : LA A B w u z m zm) (hb : Below w.heap.size w w') : LA A B w' u z m zm :=
  have k : ∀ c, Q2 A B w c → Q2 A B w' c ∧ w'.heap[c]? = w.heap[c]? := fun c hc => ⟨⟨Nat.lt_of_lt_of_le hc.1 hb.size, hc.2⟩, hb.block c hc.1⟩
  ⟨h.bk.keep hb, h.nv.keep k, h.mv.keep k⟩

theorem LA.other {A B : Nat} {w : World} {u : Array Value} {z : Rf.Node} {m : Value} {zm : List Rf.Msg} (h : LA A B w u z m zm) (hne : A ≠ B) (v0 v1 v2 v3 v4 v5 v6 v7 v8 v9 v10 : Value) : LA A B (put11 w B v0 v1 v2 v3 v4 v5 v6 v7 v8 v9 v10) u z m zm :=
  have k : ∀ c, Q2 A B w c → Q2 A B (put11 w B v0 v1 v2 v3 v4 v5 v6 v7 v8 v9 v10) c ∧ (put11 w B v0 v1 v2 v3 v4 v5 v6 v7 v8 v9 v10).heap[c]? = w.heap[c]? := fun c hc => ⟨⟨by rw [put11_size]; exact hc.1, hc.2⟩, put11_heap _ _ _ hc.2.2 _ _ _ _ _ _ _ _ _ _ _⟩
  ⟨bk_out11 h.bk hne, h.nv.keep k, h.mv.keep k⟩

theorem LA.nw {A B : Nat} {w : World} {u : Array Value} {z : Rf.Node} {m : Value} {zm : List Rf.Msg} (h : LA A B w u z m zm) : Nv w u z := h.nv.keep fun _ hc => ⟨hc.1, rfl⟩
theorem LA.mw {A B : Nat} {w : World} {u : Array Value} {z : Rf.Node} {m : Value} {zm : List Rf.Msg} (h : LA A B w u z m zm) : Mv w m zm := h.mv.keep fun _ hc => ⟨hc.1, rfl⟩

/-- what a step tells is stored -/
theorem la_set {P : Nat → Prop} {A B : Nat} {w w1 : World} {z : Rf.Node} {m : Value} {zm : List Rf.Msg} {u0 u1 u2 u3 u4 u5 u6 u7 u8 u9 u10 v0 v1 v2 v3 v4 v5 v6 v7 v8 v9 v10 : Value} (hb : BK w1 A 25 #[u0, u1, u2, u3, u4, u5, u6, u7, u8, u9, u10]) (hP : ∀ c, P c → c < w1.heap.size ∧ c ≠ A ∧ c ≠ B) (hA : A < w.heap.size) (hB : B < w.heap.size)
    (hv : NV (fun b => P b ∨ Fresh w w1 b) w1 #[v0, v1, v2, v3, v4, v5, v6, v7, v8, v9, v10] z) (hm : MV (Fresh w w1) w1 m zm) : LA A B (put11 w1 A v0 v1 v2 v3 v4 v5 v6 v7 v8 v9 v10) #[v0, v1, v2, v3, v4, v5, v6, v7, v8, v9, v10] z m zm := by
  have k : ∀ c, (P c ∨ Fresh w w1 c) → Q2 A B (put11 w1 A v0 v1 v2 v3 v4 v5 v6 v7 v8 v9 v10) c ∧ (put11 w1 A v0 v1 v2 v3 v4 v5 v6 v7 v8 v9 v10).heap[c]? = w1.heap[c]? := by
    intro c hc
    have q : c < w1.heap.size ∧ c ≠ A ∧ c ≠ B := by
      rcases hc with h | h
      · exact hP c h
      · have h1 := h.1
        exact ⟨h.2, by omega, by omega⟩
    exact ⟨⟨by rw [put11_size]; exact q.1, q.2⟩, put11_heap _ _ _ q.2.1 _ _ _ _ _ _ _ _ _ _ _⟩
  exact ⟨BK.put11 hb v0 v1 v2 v3 v4 v5 v6 v7 v8 v9 v10, hv.keep k, hm.keep fun c hc => k c (.inr hc)⟩

/-- what a step tells is stored in a new block -/
theorem la_new {P : Nat → Prop} {B : Nat} {w w1 : World} {z : Rf.Node} {m : Value} {zm : List Rf.Msg} {u0 u1 u2 u3 u4 u5 u6 u7 u8 u9 u10 v0 v1 v2 v3 v4 v5 v6 v7 v8 v9 v10 : Value} (hP : ∀ c, P c → c < w1.heap.size ∧ c ≠ B) (hB : B < w.heap.size ∨ w1.heap.size < B)
    (hv : NV (fun b => P b ∨ Fresh w w1 b) w1 #[v0, v1, v2, v3, v4, v5, v6, v7, v8, v9, v10] z) (hm : MV (Fresh w w1) w1 m zm) : LA w1.heap.size B (put11 (w1.alloc (.cells #[u0, u1, u2, u3, u4, u5, u6, u7, u8, u9, u10] 25)) w1.heap.size v0 v1 v2 v3 v4 v5 v6 v7 v8 v9 v10) #[v0, v1, v2, v3, v4, v5, v6, v7, v8, v9, v10] z m zm := by
  have k : ∀ c, (P c ∨ Fresh w w1 c) → Q2 w1.heap.size B (put11 (w1.alloc (.cells #[u0, u1, u2, u3, u4, u5, u6, u7, u8, u9, u10] 25)) w1.heap.size v0 v1 v2 v3 v4 v5 v6 v7 v8 v9 v10) c ∧ (put11 (w1.alloc (.cells #[u0, u1, u2, u3, u4, u5, u6, u7, u8, u9, u10] 25)) w1.heap.size v0 v1 v2 v3 v4 v5 v6 v7 v8 v9 v10).heap[c]? = w1.heap[c]? := by
    intro c hc
    have q : c < w1.heap.size ∧ c ≠ B := by
      rcases hc with h | h
      · exact hP c h
      · have h1 := h.1
        have h2 := h.2
        exact ⟨h.2, by omega⟩
    have q1 := q.1
    exact ⟨⟨by rw [put11_size, World.size_alloc]; omega, by omega, q.2⟩, (put11_heap _ _ _ (by omega) _ _ _ _ _ _ _ _ _ _ _).trans ((below_new w1 _).block c q.1)⟩
  exact ⟨BK.put11 (BK.new _ _ _) v0 v1 v2 v3 v4 v5 v6 v7 v8 v9 v10, hv.keep k, hm.keep fun c hc => k c (.inr hc)⟩

/-- what a step tells lies in a new block -/
theorem la_alloc {P : Nat → Prop} {B : Nat} {w w1 : World} {z : Rf.Node} {m : Value} {zm : List Rf.Msg} {u : Array Value} (hP : ∀ c, P c → c < w1.heap.size ∧ c ≠ B) (hB : B < w.heap.size ∨ w1.heap.size < B)
    (hv : NV (fun b => P b ∨ Fresh w w1 b) w1 u z) (hm : MV (Fresh w w1) w1 m zm) : LA w1.heap.size B (w1.alloc (.cells u 25)) u z m zm := by
  have k : ∀ c, (P c ∨ Fresh w w1 c) → Q2 w1.heap.size B (w1.alloc (.cells u 25)) c ∧ (w1.alloc (.cells u 25)).heap[c]? = w1.heap[c]? := by
    intro c hc
    have q : c < w1.heap.size ∧ c ≠ B := by
      rcases hc with h | h
      · exact hP c h
      · have h1 := h.1
        have h2 := h.2
        exact ⟨h.2, by omega⟩
    have q1 := q.1
    exact ⟨⟨by rw [World.size_alloc]; omega, by omega, q.2⟩, (below_new w1 _).block c q.1⟩
  exact ⟨BK.new _ _ _, hv.keep k, hm.keep fun c hc => k c (.inr hc)⟩

theorem Nv.on {w w' : World} {v : Array Value} {x : Rf.Node} (h : Nv w v x) (hb : Below w.heap.size w w') : Nv w' v x := h.keep (kept hb)
/-- the cells of three nodes -/
theorem tell33 {w : World} {a b c : Nat} {x0 x1 x2 x3 x4 x5 x6 x7 x8 x9 x10 y0 y1 y2 y3 y4 y5 y6 y7 y8 y9 y10 z0 z1 z2 z3 z4 z5 z6 z7 z8 z9 z10 : Value} (ha : BK w a 25 #[x0, x1, x2, x3, x4, x5, x6, x7, x8, x9, x10]) (hb : BK w b 25 #[y0, y1, y2, y3, y4, y5, y6, y7, y8, y9, y10]) (hc : BK w c 25 #[z0, z1, z2, z3, z4, z5, z6, z7, z8, z9, z10]) : w.cell? ⟨a, 0, none⟩ = some x0 ∧ w.cell? ⟨a, 1, none⟩ = some x1 ∧ w.cell? ⟨a, 2, none⟩ = some x2 ∧ w.cell? ⟨a, 3, none⟩ = some x3 ∧ w.cell? ⟨a, 4, none⟩ = some x4 ∧ w.cell? ⟨a, 5, none⟩ = some x5 ∧ w.cell? ⟨a, 6, none⟩ = some x6 ∧ w.cell? ⟨a, 7, none⟩ = some x7 ∧ w.cell? ⟨a, 8, none⟩ = some x8 ∧ w.cell? ⟨a, 9, none⟩ = some x9 ∧ w.cell? ⟨a, 10, none⟩ = some x10 ∧ w.cell? ⟨b, 0, none⟩ = some y0 ∧ w.cell? ⟨b, 1, none⟩ = some y1 ∧ w.cell? ⟨b, 2, none⟩ = some y2 ∧ w.cell? ⟨b, 3, none⟩ = some y3 ∧ w.cell? ⟨b, 4, none⟩ = some y4 ∧ w.cell? ⟨b, 5, none⟩ = some y5 ∧ w.cell? ⟨b, 6, none⟩ = some y6 ∧ w.cell? ⟨b, 7, none⟩ = some y7 ∧ w.cell? ⟨b, 8, none⟩ = some y8 ∧ w.cell? ⟨b, 9, none⟩ = some y9 ∧ w.cell? ⟨b, 10, none⟩ = some y10 ∧ w.cell? ⟨c, 0, none⟩ = some z0 ∧ w.cell? ⟨c, 1, none⟩ = some z1 ∧ w.cell? ⟨c, 2, none⟩ = some z2 ∧ w.cell? ⟨c, 3, none⟩ = some z3 ∧ w.cell? ⟨c, 4, none⟩ = some z4 ∧ w.cell? ⟨c, 5, none⟩ = some z5 ∧ w.cell? ⟨c, 6, none⟩ = some z6 ∧ w.cell? ⟨c, 7, none⟩ = some z7 ∧ w.cell? ⟨c, 8, none⟩ = some z8 ∧ w.cell? ⟨c, 9, none⟩ = some z9 ∧ w.cell? ⟨c, 10, none⟩ = some z10 := by
  obtain ⟨p0, p1, p2, p3, p4, p5, p6, p7, p8, p9, p10⟩ := (show NX w a _ _ _ _ _ _ _ _ _ _ _ from ha).tell
  obtain ⟨q0, q1, q2, q3, q4, q5, q6, q7, q8, q9, q10⟩ := (show NX w b _ _ _ _ _ _ _ _ _ _ _ from hb).tell
  obtain ⟨r0, r1, r2, r3, r4, r5, r6, r7, r8, r9, r10⟩ := (show NX w c _ _ _ _ _ _ _ _ _ _ _ from hc).tell
  exact ⟨p0, p1, p2, p3, p4, p5, p6, p7, p8, p9, p10, q0, q1, q2, q3, q4, q5, q6, q7, q8, q9, q10, r0, r1, r2, r3, r4, r5, r6, r7, r8, r9, r10⟩

theorem Nv.drew {w : World} {v : Array Value} {x : Rf.Node} (h : Nv w v x) : Nv w.drew v x := h.on (Below.refl _ _).drew
theorem pn_nv {w0 wx wc : World} {v : Array Value} {x : Rf.Node} (h : NV (fun b => b < w0.heap.size ∨ Fresh wx wc b) wc v x) (hs : w0.heap.size ≤ wc.heap.size) : Nv wc v x := h.keep fun c hc => ⟨by rcases hc with q | q; omega; exact q.2, rfl⟩
end Go.Proofs.Ytiplnegiphhdlaa
