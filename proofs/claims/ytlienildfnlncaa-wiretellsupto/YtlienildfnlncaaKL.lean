/- What a reader makes in memory: trees in new blocks, lists of them. -/
import Derived.Test.YtlienildfnlncaaKK
import Derived.Deep.RegionLaw
namespace Go.Proofs.Ytlienildfnlncaa
open Go.RowKit

/-- four cells in a block -/
structure Bx (w : World) (b : Nat) (v0 v1 v2 v3 : Value) : Prop where
  low : b < w.heap.size
  tell : w.cell? ⟨b, 0, none⟩ = some v0 ∧ w.cell? ⟨b, 1, none⟩ = some v1 ∧ w.cell? ⟨b, 2, none⟩ = some v2 ∧ w.cell? ⟨b, 3, none⟩ = some v3
  thaw : w.frozen? ⟨b, 0, none⟩ = false ∧ w.frozen? ⟨b, 1, none⟩ = false ∧ w.frozen? ⟨b, 2, none⟩ = false ∧ w.frozen? ⟨b, 3, none⟩ = false
theorem Bx.new (w : World) (t : TypeId) (v0 v1 v2 v3 : Value) : Bx (w.alloc (.cells #[v0, v1, v2, v3] t)) w.heap.size v0 v1 v2 v3 :=
  ⟨by simp, ⟨by go_simp, by go_simp, by go_simp, by go_simp⟩, ⟨by simp [go_sem], by simp [go_sem], by simp [go_sem], by simp [go_sem]⟩⟩
theorem Bx.same {w w' : World} {b : Nat} {v0 v1 v2 v3 : Value} (h : Bx w b v0 v1 v2 v3) (hb : w'.heap[b]? = w.heap[b]?) (hs : w.heap.size ≤ w'.heap.size) : Bx w' b v0 v1 v2 v3 := by
  have c : ∀ o, w'.cell? ⟨b, o, none⟩ = w.cell? ⟨b, o, none⟩ := fun o => World.cell?_of_block (w := w) (a := ⟨b, o, none⟩) hb
  have f : ∀ o, w'.frozen? ⟨b, o, none⟩ = w.frozen? ⟨b, o, none⟩ := fun o => World.frozen?_of_block (w := w) (a := ⟨b, o, none⟩) hb
  refine ⟨Nat.lt_of_lt_of_le h.low hs, ?_, ?_⟩
  · simp only [c]; exact h.tell
  · simp only [f]; exact h.thaw
theorem Bx.keep {w w' : World} {b : Nat} {v0 v1 v2 v3 : Value} (h : Bx w b v0 v1 v2 v3) (hb : Below w.heap.size w w') : Bx w' b v0 v1 v2 v3 := h.same (hb.block b h.low) hb.size
theorem Bx.but {w w' : World} {b p : Nat} {v0 v1 v2 v3 : Value} (h : Bx w b v0 v1 v2 v3) (hb : But p w w') (ne : b ≠ p) : Bx w' b v0 v1 v2 v3 := h.same (hb.block b h.low ne) hb.size
theorem Bx.set1 {w : World} {b : Nat} {v0 v1 v2 v3 : Value} (h : Bx w b v0 v1 v2 v3) (v : Value) : Bx (w.setCell ⟨b, 1, none⟩ v) b v0 v v2 v3 := by
  obtain ⟨h0, h1, h2, h3⟩ := h.tell
  obtain ⟨f0, f1, f2, f3⟩ := h.thaw
  exact ⟨by simpa [World.setCell] using h.low, ⟨by simp [go_sem, h0], by simp [go_sem, h1], by simp [go_sem, h2], by simp [go_sem, h3]⟩, ⟨by simp [go_sem, f0], by simp [go_sem, f1], by simp [go_sem, f2], by simp [go_sem, f3]⟩⟩
theorem Bx.set2 {w : World} {b : Nat} {v0 v1 v2 v3 : Value} (h : Bx w b v0 v1 v2 v3) (v : Value) : Bx (w.setCell ⟨b, 2, none⟩ v) b v0 v1 v v3 := by
  obtain ⟨h0, h1, h2, h3⟩ := h.tell
  obtain ⟨f0, f1, f2, f3⟩ := h.thaw
  exact ⟨by simpa [World.setCell] using h.low, ⟨by simp [go_sem, h0], by simp [go_sem, h1], by simp [go_sem, h2], by simp [go_sem, h3]⟩, ⟨by simp [go_sem, f0], by simp [go_sem, f1], by simp [go_sem, f2], by simp [go_sem, f3]⟩⟩
theorem Bx.set3 {w : World} {b : Nat} {v0 v1 v2 v3 : Value} (h : Bx w b v0 v1 v2 v3) (v : Value) : Bx (w.setCell ⟨b, 3, none⟩ v) b v0 v1 v2 v := by
  obtain ⟨h0, h1, h2, h3⟩ := h.tell
  obtain ⟨f0, f1, f2, f3⟩ := h.thaw
  exact ⟨by simpa [World.setCell] using h.low, ⟨by simp [go_sem, h0], by simp [go_sem, h1], by simp [go_sem, h2], by simp [go_sem, h3]⟩, ⟨by simp [go_sem, f0], by simp [go_sem, f1], by simp [go_sem, f2], by simp [go_sem, f3]⟩⟩
theorem RD.same {w w' : World} {R g : Nat} {s : RS} {off cap : Nat} (h : RD w R g s off cap) (hR : w'.heap[R]? = w.heap[R]?) (hg : w'.heap[g]? = w.heap[g]?) (hs : w.heap.size ≤ w'.heap.size) : RD w' R g s off cap := by
  have c : ∀ o, w'.cell? ⟨R, o, none⟩ = w.cell? ⟨R, o, none⟩ := fun o => World.cell?_of_block (w := w) (a := ⟨R, o, none⟩) hR
  have f : ∀ o, w'.frozen? ⟨R, o, none⟩ = w.frozen? ⟨R, o, none⟩ := fun o => World.frozen?_of_block (w := w) (a := ⟨R, o, none⟩) hR
  exact ⟨Nat.lt_of_lt_of_le h.low hs, Nat.lt_of_lt_of_le h.glow hs, h.ne, (c 0).trans h.c0, (c 1).trans h.c1, (c 2).trans h.c2, (f 0).trans h.f0, (f 1).trans h.f1, (f 2).trans h.f2,
    h.bc.keep (fun o => World.cell?_of_block (w := w) (a := ⟨g, o, none⟩) hg), h.len, h.cap⟩

/-- trees, each in its cells -/
def MemEach (P : Nat → Prop) (w : World) : List WT → List (Array Value) → Prop
  | [], [] => True
  | T :: Ts, v :: vs => MemWP P w T v ∧ MemEach P w Ts vs
  | _, _ => False
theorem MemWP.keepB {P Q : Nat → Prop} {w w' : World} {T : WT} {v : Array Value} (hb : ∀ b, P b → Q b ∧ w'.heap[b]? = w.heap[b]?) (h : MemWP P w T v) : MemWP Q w' T v :=
  h.keep fun b hp => ⟨(hb b hp).1, fun o => World.cell?_of_block (w := w) (a := ⟨b, o, none⟩) (hb b hp).2⟩
theorem MemEach.keep {P Q : Nat → Prop} {w w' : World} (hb : ∀ b, P b → Q b ∧ w'.heap[b]? = w.heap[b]?) : ∀ {Ts : List WT} {vs : List (Array Value)}, MemEach P w Ts vs → MemEach Q w' Ts vs
  | [], [], _ => by rw [MemEach]; trivial
  | T :: Ts, v :: vs, h => by
    rw [MemEach] at h ⊢
    exact ⟨MemWP.keepB hb h.1, MemEach.keep hb h.2⟩
  | [], _ :: _, h => by rw [MemEach] at h <;> first | exact h.elim | simp
  | _ :: _, [], h => by rw [MemEach] at h <;> first | exact h.elim | simp
theorem MemEach.snoc {P : Nat → Prop} {w : World} {T : WT} {v : Array Value} (h : MemWP P w T v) : ∀ {Ts : List WT} {vs : List (Array Value)}, MemEach P w Ts vs → MemEach P w (Ts ++ [T]) (vs ++ [v])
  | [], [], _ => by simp only [List.nil_append]; rw [MemEach]; exact ⟨h, by rw [MemEach]; trivial⟩
  | U :: Us, u :: us, k => by
    rw [MemEach] at k
    simp only [List.cons_append]
    rw [MemEach]
    exact ⟨k.1, MemEach.snoc h k.2⟩
  | [], _ :: _, h => by rw [MemEach] at h <;> first | exact h.elim | simp
  | _ :: _, [], h => by rw [MemEach] at h <;> first | exact h.elim | simp
theorem MemWP.four {P : Nat → Prop} {w : World} {T : WT} {v : Array Value} (h : MemWP P w T v) : ∃ (g n : Int) (t : ByteArray) (a : Option Addr) (l cap : Nat), v = #[.int .i64 g, .int .i64 n, .string t, .slice a l cap] := by
  cases T
  rw [MemWP] at h
  obtain ⟨_, _, _, a, cap, hv, _⟩ := h
  exact ⟨_, _, _, a, _, cap, hv⟩
theorem MemEach.row {P : Nat → Prop} {w : World} {b : Nat} : ∀ {Ts : List WT} {vs : List (Array Value)} {off : Nat}, MemEach P w Ts vs → (∀ (j : Nat) (u : Value), (vs.flatMap Array.toList)[j]? = some u → w.cell? ⟨b, off + j, none⟩ = some u) → MemWL P w Ts b off
  | [], [], _, _, _ => by rw [MemWL]; trivial
  | T :: Ts, v :: vs, off, h, hc => by
    rw [MemEach] at h
    obtain ⟨g, n, t, a, l, cap, rfl⟩ := h.1.four
    rw [MemWL]
    refine ⟨⟨_, ⟨_, _, _, _, rfl, ?_, ?_, ?_, ?_⟩, h.1⟩, MemEach.row h.2 (fun j u hj => ?_)⟩
    · exact hc 0 _ rfl
    · exact hc 1 _ rfl
    · exact hc 2 _ rfl
    · exact hc 3 _ rfl
    · have := hc (4 + j) u (by
        rw [List.flatMap_cons, List.getElem?_append_right (by simp)]
        simpa using hj)
      rwa [show off + (4 + j) = off + 4 + j by omega] at this
  | [], _ :: _, _, h, _ => by rw [MemEach] at h <;> first | exact h.elim | simp
  | _ :: _, [], _, h, _ => by rw [MemEach] at h <;> first | exact h.elim | simp
theorem info_tree : (Try.prog.info? 24).map (fun i => (i.zero, i.size, i.bytes)) = some (some (.agg #[.int .i64 0, .int .i64 0, .string ⟨#[]⟩, .slice none 0 0]), 4, 56) := by kernel_rfl
theorem own_slice {base : Nat} {e : TypeId} {size : Nat} {w : World} {v : Value} {n : Nat} {xs : List Value} (h : w.ownsRow base e size v (n + 1) xs) : ∃ g cap, v = .slice (some ⟨g, 0, none⟩) (n + 1) cap := by
  rcases h.2 with ⟨_, h2⟩ | ⟨g, cap, cur, hv, _⟩
  · omega
  · exact ⟨g, cap, hv⟩
theorem own_sl {base : Nat} {e : TypeId} {size : Nat} {w : World} {v : Value} {n : Nat} {xs : List Value} (h : w.ownsRow base e size v n xs) : ∃ a cap, v = .slice a n cap := by
  rcases h.2 with ⟨rfl, rfl⟩ | ⟨g, cap, cur, hv, _⟩
  · exact ⟨_, _, rfl⟩
  · exact ⟨_, cap, hv⟩
theorem own_same {base : Nat} {e : TypeId} {size : Nat} {w w' : World} {sv : Value} {n : Nat} {xs : List Value} (h : w.ownsRow base e size sv n xs) (hb : ∀ k, sv.ownBlock = some k → w'.heap[k]? = w.heap[k]?) : w'.ownsRow base e size sv n xs := by
  obtain ⟨h1, h2⟩ := h
  refine ⟨h1, ?_⟩
  rcases h2 with h2 | ⟨g, cap, cur, rfl, hg, hh, r⟩
  · exact .inl h2
  · exact .inr ⟨g, cap, cur, rfl, hg, (hb g rfl).trans hh, r⟩
theorem step_append_own_at {P : Program} {ops : Array Oper} {o : Oper} {a : Act} {w : World} {K : Act → World → Prop} {Q : Exit → Act → World → Prop} {E : Prop}
    (hg : o.guard = none) (s x : Operand) (t : TypeId) (ho : o.op = Op.call { callee := Callee.builtin Builtin.append, args := #[s, x], argTypes := #[t, t] })
    (base : Nat) (e : TypeId) (i : TypeInfo) (z : Value) (size bytes : Nat) (ht : P.underlying t = some (.slice e)) (hi : P.info? e = some i) (hz : i.zero = some z)
    (hsize : i.size = size) (hby : i.bytes = bytes) (hzs : z.cells.size = size) (hsz : 0 < size)
    (v : Value) (n : Nat) (xs : List Value) (hs : a.eval s = v) (hown : w.ownsRow base e size v n xs)
    (ad : Addr) (m c : Nat) (news : List Value) (hx : a.eval x = .slice (some ad) m c) (hl : news.length = m * size) (hnews : ∀ j u, news[j]? = some u → w.cell? (ad.add j) = some u) (h1 : ∀ u ∈ news, u.oneCell' = true)
    (h63 : n + m ≤ maxLen) (hbytes : (n + m) * bytes ≤ 140737488355328) (hbase : base ≤ w.heap.size)
    (hK : ∀ v' w', w'.ownsRow base e size v' (n + m) (xs ++ news) → w.grownBy w' v.ownBlock → (v'.ownBlock = v.ownBlock ∨ v'.ownBlock = some w.heap.size) → K (a.put o.dst v') w') :
    if Region.wanted o (yielded ops a.tmps) = true then Oper.wp P o a w K Q else E := by
  have hw : Region.wanted o (yielded ops a.tmps) = true := by simp [Region.wanted, hg]
  rw [if_pos hw]
  obtain ⟨v', w', hr, h2, h3, _, h5⟩ := run_append_own_at (P := P) w base t o.type e i z size bytes ht hi hz hsize hby hzs hsz v n xs hown ad m c news hl hnews h1 h63 hbytes hbase
  unfold Oper.wp execOp
  simp only [ho, resolve, invoke, builtin, Sem.run_bind, Sem.run_pure, Result.andThen_ok, List.map_toArray, List.map_cons, List.map_nil, hs, hx, hr]
  exact hK v' w' h2 h3 h5
theorem one_mix (g n : Int) (t : ByteArray) (a : Option Addr) (l c : Nat) : ∀ u ∈ [Value.int .i64 g, Value.int .i64 n, Value.string t, Value.slice a l c], u.oneCell' = true := by
  intro u hu
  simp at hu
  rcases hu with rfl | rfl | rfl | rfl <;> rfl

/-- a tree whose kids were built -/
theorem owned_tree {P Q : Nat → Prop} {w : World} {base : Nat} {sv : Value} {css : List (Array Value)} {Ts : List WT} {e : TypeId} {g n : Int} {t : ByteArray} (hn : -9223372036854775808 ≤ n ∧ n ≤ 9223372036854775807) (ht : t.size ≤ 9223372036854775807)
    (hown : w.ownsRow base e 4 sv Ts.length (css.flatMap Array.toList)) (hE : MemEach P w Ts css) (hPQ : ∀ b, P b → Q b) (hq : ∀ g, sv.ownBlock = some g → Q g) (hl : Ts.length ≤ 9223372036854775807) :
    MemWP Q w (.mk g n t Ts) #[.int .i64 g, .int .i64 n, .string t, sv] := by
  have hE' : MemEach Q w Ts css := hE.keep (fun b hb => ⟨hPQ b hb, rfl⟩)
  rw [MemWP]
  refine ⟨hn, ht, hl, ?_⟩
  have hc := fun g hg => hown.cells (g := g) hg
  rcases hown.2 with ⟨rfl, hn⟩ | ⟨g, cap, cur, rfl, _⟩
  · refine ⟨none, 0, by rw [hn], fun hne => absurd (List.eq_nil_of_length_eq_zero hn) hne⟩
  · refine ⟨some ⟨g, 0, none⟩, cap, rfl, fun _ => ⟨g, 0, rfl, hq g rfl, hE'.row (fun j u hj => ?_)⟩⟩
    have := hc g rfl j u hj
    rw [Addr.add_lit] at this
    exact this

/-- where the reader of a tree is, in its loop -/
structure TL (w : World) (R g Z Y : Nat) (z0 z1 z2 z3 c0 c1 c2 : Value) (wr : World) (s : RS) (sv : Value) (acc : List WT) (css : List (Array Value)) : Prop where
  rd : ∃ off cap, RD wr R g s off cap
  bx : Bx wr Y c0 c1 c2 sv
  bz : Bx wr Z z0 z1 z2 z3
  own : wr.ownsRow (Y + 1) 24 4 sv acc.length (css.flatMap Array.toList)
  each : MemEach (fun b => Y + 1 ≤ b ∧ b < wr.heap.size ∧ sv.ownBlock ≠ some b) wr acc css
  but : But R w wr
  at' : R < w.heap.size ∧ g < w.heap.size ∧ w.heap.size ≤ Z ∧ Z < Y
theorem TL.next {w : World} {R g Z Y : Nat} {z0 z1 z2 z3 c0 c1 c2 : Value} {wr w2 w3 : World} {s s2 : RS} {sv v3 : Value} {acc : List WT} {css : List (Array Value)} {U : WT} {e0 e1 e2 e3 : Value} {t : TypeId} {off cap : Nat}
    (h : TL w R g Z Y z0 z1 z2 z3 c0 c1 c2 wr s sv acc css) (hb : But R wr w2) (hR : RD w2 R g s2 off cap) (hM : MemWP (fun b => wr.heap.size ≤ b ∧ b < w2.heap.size) w2 U #[e0, e1, e2, e3])
    (hown : w3.ownsRow (Y + 1) 24 4 v3 (acc.length + 1) (css.flatMap Array.toList ++ [e0, e1, e2, e3])) (hgrow : (w2.alloc (.cells #[e0, e1, e2, e3] t)).grownBy w3 sv.ownBlock) (hat : v3.ownBlock = sv.ownBlock ∨ v3.ownBlock = some (w2.alloc (.cells #[e0, e1, e2, e3] t)).heap.size) :
    TL w R g Z Y z0 z1 z2 z3 c0 c1 c2 (w3.setCell ⟨Y, 3, none⟩ v3) s2 v3 (acc ++ [U]) (css ++ [#[e0, e1, e2, e3]]) := by
  obtain ⟨a1, a2, a3, a4⟩ := h.at'
  have hY := h.bx.low
  have s1 := h.but.size
  have s2 := hb.size
  have s3 := hgrow.size
  simp at s3
  have s4 : (w3.setCell ⟨Y, 3, none⟩ v3).heap.size = w3.heap.size := by simp [World.setCell]
  have hsv : ∀ k, sv.ownBlock = some k → Y + 1 ≤ k ∧ k < wr.heap.size := fun k hk => World.ownsRow.lt h.own k hk
  have hal : ∀ b, b < w2.heap.size → (w2.alloc (.cells #[e0, e1, e2, e3] t)).heap[b]? = w2.heap[b]? := fun b h => heap_alloc_old w2 _ h
  have hset : ∀ b, b ≠ Y → (w3.setCell ⟨Y, 3, none⟩ v3).heap[b]? = w3.heap[b]? := fun b h => Below.heap_setCell w3 ⟨Y, 3, none⟩ v3 b h
  have hge : ∀ b, b < w2.heap.size → sv.ownBlock ≠ some b → w3.heap[b]? = w2.heap[b]? := fun b h1 h2 => (hgrow.block b (by simp; omega) (fun e => h2 e.symm)).trans (hal b h1)
  have hlow : ∀ b, b ≤ Y → w3.heap[b]? = w2.heap[b]? := fun b hb => hge b (by omega) (fun e => by have := (hsv _ e).1; omega)
  have hv3 : ∀ b, b < w2.heap.size → sv.ownBlock ≠ some b → v3.ownBlock ≠ some b := by
    intro b h1 h2 h3
    rcases hat with h | h
    · exact h2 (h.symm.trans h3)
    · rw [h3] at h
      simp at h
      omega
  refine ⟨⟨off, cap, hR.same ((hset R (by omega)).trans (hlow R (by omega))) ((hset g (by omega)).trans (hlow g (by omega))) (by rw [s4]; omega)⟩, ?_, ?_, ?_, ?_, ?_, h.at'⟩
  · exact ((h.bx.but hb (by omega)).same (hlow Y (Nat.le_refl _)) (by omega)).set3 v3
  · exact (h.bz.but hb (by omega)).same ((hset Z (by omega)).trans (hlow Z (by omega))) (by rw [s4]; omega)
  · rw [List.flatMap_append, List.length_append]
    exact ownsRow_setCell_below hown (Nat.lt_succ_self Y) _
  · refine MemEach.snoc (hM.keepB (fun b hb2 => ?_)) (h.each.keep (fun b hb2 => ?_))
    · have hn : sv.ownBlock ≠ some b := fun e => by have := (hsv _ e).2; omega
      exact ⟨⟨by omega, by rw [s4]; omega, hv3 b hb2.2 hn⟩, (hset b (by omega)).trans (hge b hb2.2 hn)⟩
    · exact ⟨⟨hb2.1, by rw [s4]; omega, hv3 b (by omega) hb2.2.2⟩, (hset b (by omega)).trans ((hge b (by omega) hb2.2.2).trans (hb.block b hb2.2.1 (by omega)))⟩
  · refine ⟨hgrow.os.trans (hb.os.trans h.but.os), hgrow.tape.trans (hb.tape.trans h.but.tape), hgrow.output.trans (hb.output.trans h.but.output), by rw [s4]; omega, fun k hk hne => ?_⟩
    exact (hset k (by omega)).trans ((hlow k (by omega)).trans ((hb.block k (by omega) hne).trans (h.but.block k hk hne)))
end Go.Proofs.Ytlienildfnlncaa
