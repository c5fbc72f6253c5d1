/- Walks: bare. -/
import Derived.Test.YthhdgimphnbjbaaDoorY4
import Derived.Test.YthhdgimphnbjbaaDoorY8
import Derived.Deep.RegionLaw
namespace Go.Proofs.YthhdgimphnbjbaaDoor
open Go.RowKit

/-- what bare tells of a tree -/
def BareC (T : Tree) : Prop := ∀ (w : World) (v : Array Value), Mem w.heap.size w T v → (∃ s d, (wrongF T s d).1 = 0) →
  Calls Tryd.prog 7 #[.agg v] w fun e w' => ∃ v', e = .returned (.agg v') ∧ MemP (fun b => w.heap.size ≤ b ∧ b < w'.heap.size) w' (bareT T) v' ∧ Below w.heap.size w w'

theorem below3 (w : World) (o1 o2 o3 : Obj) : Below w.heap.size w (((w.alloc o1).alloc o2).alloc o3) := (((Below.refl _ _).alloc (Nat.le_refl _) o1).alloc (by simp) o2).alloc (by simp; omega) o3

set_option maxHeartbeats 2000000 in
theorem bare_plain (k : Int) (y : Bool) (c x : Int) (t : ByteArray) (l : Nat) (a : Option Addr) (cap : Nat) (w : World) (hk : ¬ k = 5) :
  Calls Tryd.prog 7 #[.agg #[.int .i64 k, .bool y, .int .i64 c, .int .i64 x, .string t, .slice a l cap]] w fun e w' => e = .returned (.agg #[.int .i64 k, .bool (if k = 2 then y else false), .int .i64 (if k = 3 then c else 0), .int .i64 (if k = 3 then x else 0), .string (if k = 4 then t else ⟨#[]⟩), .slice none 0 0]) ∧ Below w.heap.size w w' := by
  by_cases k2 : k = 2
  · subst k2
    go_enter Tryd.func7, Tryd.ntmps7
    go_wp2
    exact bodyPost_ret (v := .agg #[.int .i64 2, .bool y, .int .i64 0, .int .i64 0, .string ⟨#[]⟩, .slice none 0 0]) (by simp [results, Tryd.results7, go_sem]) rfl ⟨rfl, below3 _ _ _ _⟩
  rw [if_neg k2]
  by_cases k3 : k = 3
  · subst k3
    go_enter Tryd.func7, Tryd.ntmps7
    go_wp2
    exact bodyPost_ret (v := .agg #[.int .i64 3, .bool false, .int .i64 c, .int .i64 x, .string ⟨#[]⟩, .slice none 0 0]) (by simp [results, Tryd.results7, go_sem]) rfl ⟨rfl, below3 _ _ _ _⟩
  rw [if_neg k3, if_neg k3]
  by_cases k4 : k = 4
  · subst k4
    go_enter Tryd.func7, Tryd.ntmps7
    go_wp2
    exact bodyPost_ret (v := .agg #[.int .i64 4, .bool false, .int .i64 0, .int .i64 0, .string t, .slice none 0 0]) (by simp [results, Tryd.results7, go_sem]) rfl ⟨rfl, below3 _ _ _ _⟩
  rw [if_neg k4]
  have k2' : (k == 2) = false := by simpa using k2
  have k3' : (k == 3) = false := by simpa using k3
  have k4' : (k == 4) = false := by simpa using k4
  have k5' : (k == 5) = false := by simpa using hk
  go_enter Tryd.func7, Tryd.ntmps7
  go_wp2
  exact bodyPost_ret (v := .agg #[.int .i64 k, .bool false, .int .i64 0, .int .i64 0, .string ⟨#[]⟩, .slice none 0 0]) (by simp [results, Tryd.results7, go_sem]) rfl ⟨rfl, below3 _ _ _ _⟩

theorem step_append_own_at {P : Program} {ops : Array Oper} {o : Oper} {a : Act} {w : World} {K : Act → World → Prop} {Q : Exit → Act → World → Prop} {E : Prop}
    (hg : o.guard = none) (s x : Operand) (t : TypeId) (ho : o.op = Op.call { callee := Callee.builtin Builtin.append, args := #[s, x], argTypes := #[t, t] })
    (base : Nat) (e : TypeId) (i : TypeInfo) (z : Value) (size bytes : Nat) (ht : P.underlying t = some (.slice e)) (hi : P.info? e = some i) (hz : i.zero = some z)
    (hsize : i.size = size) (hby : i.bytes = bytes) (hzs : z.cells.size = size) (hsz : 0 < size)
    (v : Value) (n : Nat) (xs : List Value) (hs : a.eval s = v) (hown : w.ownsRow base e size v n xs)
    (ad : Addr) (m c : Nat) (news : List Value) (hx : a.eval x = .slice (some ad) m c) (hl : news.length = m * size) (hnews : ∀ j u, news[j]? = some u → w.cell? (ad.add j) = some u) (h1 : ∀ u ∈ news, u.oneCell' = true)
    (h63 : n + m ≤ maxLen) (hbytes : (n + m) * bytes ≤ 140737488355328) (hbase : base ≤ w.heap.size)
    (hK : ∀ v' w', w'.ownsRow base e size v' (n + m) (xs ++ news) → w.grownBy w' v.ownBlock → (v'.ownBlock = v.ownBlock ∨ v'.ownBlock = some w.heap.size) → K (a.put o.dst v') w') :
    if Region.wanted o (yielded ops a.tmps) = true then Oper.wp P o a w K Q else E := by
  have hw : Region.wanted o (yielded ops a.tmps) = true := by simp [Region.wanted, hg]
  rw [if_pos hw]
  obtain ⟨v', w', hr, h2, h3, _, h5⟩ := run_append_own_at (P := P) w base t o.type e i z size bytes ht hi hz hsize hby hzs hsz v n xs hown ad m c news hl hnews h1 h63 hbytes hbase
  unfold Oper.wp execOp
  simp only [ho, resolve, invoke, builtin, Sem.run_bind, Sem.run_pure, Result.andThen_ok, List.map_toArray, List.map_cons, List.map_nil, hs, hx, hr]
  exact hK v' w' h2 h3 h5

theorem Box.grown {w w' : World} {b : Nat} {v : Array Value} {r : Option Nat} (h : Box w b v) (hb : w.grownBy w' r) (ne : some b ≠ r) : Box w' b v := by
  have bl := hb.block b h.low ne
  have c : ∀ o, w'.cell? ⟨b, o, none⟩ = w.cell? ⟨b, o, none⟩ := fun o => World.cell?_of_block (a := ⟨b, o, none⟩) bl
  exact ⟨Nat.lt_of_lt_of_le h.low hb.size, by rw [c]; exact h.at0, by rw [c]; exact h.at1, by rw [c]; exact h.at2, by rw [c]; exact h.at3, by rw [c]; exact h.at4, by rw [c]; exact h.at5, fun o => by rw [World.frozen?_of_block (a := ⟨b, o, none⟩) bl]; exact h.free o⟩

theorem Box.set5 {w : World} {b : Nat} {a0 a1 a2 a3 a4 a5 : Value} (h : Box w b #[a0, a1, a2, a3, a4, a5]) (v : Value) : Box (w.setCell ⟨b, 5, none⟩ v) b #[a0, a1, a2, a3, a4, v] := by
  obtain ⟨h0, h1, h2, h3, h4, h5⟩ := h.tell
  obtain ⟨f0, f1, f2, f3, f4, f5⟩ := h.thaw
  have hl := h.low
  constructor
  · simpa [World.setCell] using hl
  all_goals first | (simp [go_sem, h0, h1, h2, h3, h4, h5]; done) | (intro o; have := h.free o; simp [go_sem, this])

theorem own_keep {base : Nat} {e : TypeId} {size : Nat} {w w' : World} {sv : Value} {n : Nat} {xs : List Value} (h : w.ownsRow base e size sv n xs) (hb : Below w.heap.size w w') : w'.ownsRow base e size sv n xs := by
  obtain ⟨h1, h2⟩ := h
  refine ⟨h1, ?_⟩
  rcases h2 with h2 | ⟨g, cap, cur, hv, hg, hh, r⟩
  · exact .inl h2
  · refine .inr ⟨g, cap, cur, hv, hg, (hb.block g ?_).trans hh, r⟩
    rcases Nat.lt_or_ge g w.heap.size with q | q
    · exact q
    · rw [Array.getElem?_eq_none q] at hh; cases hh

theorem own_slice {base : Nat} {e : TypeId} {size : Nat} {w : World} {v : Value} {n : Nat} {xs : List Value} (h : w.ownsRow base e size v (n + 1) xs) : ∃ g cap, v = .slice (some ⟨g, 0, none⟩) (n + 1) cap := by
  rcases h.2 with ⟨_, h2⟩ | ⟨g, cap, cur, hv, _⟩
  · omega
  · exact ⟨g, cap, hv⟩

theorem info_val : (Tryd.prog.info? 26).map (fun i => (i.zero, i.size, i.bytes)) = some (some (.agg #[.int .i64 0, .bool false, .int .i64 0, .int .i64 0, .string ⟨#[]⟩, .slice none 0 0]), 6, 72) := by kernel_rfl

theorem add_plain0 (b j : Nat) : (⟨b, 0, none⟩ : Addr).add j = ⟨b, j, none⟩ := by simp [Addr.add, eq_comm]

theorem cell_six_new (W : World) (t : TypeId) (a b c d e f : Value) : ∀ j u, [a, b, c, d, e, f][j]? = some u → (W.alloc (.cells #[a, b, c, d, e, f] t)).cell? ((⟨W.heap.size, 0, none⟩ : Addr).add j) = some u := by
  intro j u h
  rw [add_plain0]
  have hj : j < 6 := by
    rcases Nat.lt_or_ge j 6 with q | q
    · exact q
    · rw [List.getElem?_eq_none (by simpa using q)] at h; cases h
  rcases (by omega : j = 0 ∨ j = 1 ∨ j = 2 ∨ j = 3 ∨ j = 4 ∨ j = 5) with rfl | rfl | rfl | rfl | rfl | rfl <;> (simp at h; subst h; simp [go_sem])

/-- a list that was built -/
theorem owned_tree {P Q : Nat → Prop} {w : World} {base : Nat} {sv : Value} {css : List (Array Value)} {Ts : List Tree} {e : TypeId} (hown : w.ownsRow base e 6 sv Ts.length (css.flatMap Array.toList)) (hE : MemEach P w Ts css) (hPQ : ∀ b, P b → Q b) (hq : ∀ g, sv.ownBlock = some g → Q g) (hl : Ts.length ≤ 9223372036854775807) :
    MemP Q w (.mk 5 false 0 0 ⟨#[]⟩ Ts) #[.int .i64 5, .bool false, .int .i64 0, .int .i64 0, .string ⟨#[]⟩, sv] := by
  have hE' : MemEach Q w Ts css := hE.keep (fun b hb => ⟨hPQ b hb, rfl⟩)
  rw [MemP]
  refine ⟨by simp [ByteArray.size], hl, ?_⟩
  have hc := fun g hg => hown.cells (g := g) hg
  rcases hown.2 with ⟨rfl, hn⟩ | ⟨g, cap, cur, rfl, _⟩
  · refine ⟨none, 0, by rw [hn], fun hne => absurd (List.eq_nil_of_length_eq_zero hn) hne⟩
  · refine ⟨some ⟨g, 0, none⟩, cap, rfl, fun _ => ⟨g, 0, rfl, hq g rfl, hE'.row (fun j u hj => ?_)⟩⟩
    have := hc g rfl j u hj
    rw [add_plain0] at this
    rw [Nat.zero_add]
    exact this

theorem bare_step {wr w2 w3 : World} {out base m : Nat} {a0 a1 a2 a3 a4 sv v3 e0 e1 e2 e3 e4 e5 : Value} {e t : TypeId} {css : List (Array Value)} {Ts : List Tree} {U : Tree} (hb : out < base) (hbase : base ≤ wr.heap.size) (HX : Box wr out #[a0, a1, a2, a3, a4, sv]) (HO : wr.ownsRow base e 6 sv m (css.flatMap Array.toList))
    (HE : MemEach (fun b => base ≤ b ∧ b < wr.heap.size ∧ sv.ownBlock ≠ some b) wr Ts css) (bx : Below wr.heap.size wr w2) (hM : MemP (fun b => wr.heap.size ≤ b ∧ b < w2.heap.size) w2 U #[e0, e1, e2, e3, e4, e5])
    (hown : w3.ownsRow base e 6 v3 (m + 1) (css.flatMap Array.toList ++ [e0, e1, e2, e3, e4, e5])) (hgrow : (w2.alloc (.cells #[e0, e1, e2, e3, e4, e5] t)).grownBy w3 sv.ownBlock) (hat : v3.ownBlock = sv.ownBlock ∨ v3.ownBlock = some (w2.alloc (.cells #[e0, e1, e2, e3, e4, e5] t)).heap.size) :
    Box (w3.setCell ⟨out, 5, none⟩ v3) out #[a0, a1, a2, a3, a4, v3] ∧ (w3.setCell ⟨out, 5, none⟩ v3).ownsRow base e 6 v3 (m + 1) ((css ++ [#[e0, e1, e2, e3, e4, e5]]).flatMap Array.toList) ∧
    MemEach (fun b => base ≤ b ∧ b < (w3.setCell ⟨out, 5, none⟩ v3).heap.size ∧ v3.ownBlock ≠ some b) (w3.setCell ⟨out, 5, none⟩ v3) (Ts ++ [U]) (css ++ [#[e0, e1, e2, e3, e4, e5]]) ∧ Below out wr (w3.setCell ⟨out, 5, none⟩ v3) := by
  have s2 := bx.size
  have s3 := hgrow.size
  simp at s3
  have s4 : (w3.setCell ⟨out, 5, none⟩ v3).heap.size = w3.heap.size := by simp [World.setCell]
  have hl := fun g hg => HO.lt g hg
  have hsv : ∀ g, sv.ownBlock = some g → base ≤ g ∧ g < wr.heap.size := hl
  have hal : ∀ b, b < w2.heap.size → (w2.alloc (.cells #[e0, e1, e2, e3, e4, e5] t)).heap[b]? = w2.heap[b]? := fun b h => heap_alloc_old w2 _ h
  have hset : ∀ b, b ≠ out → (w3.setCell ⟨out, 5, none⟩ v3).heap[b]? = w3.heap[b]? := fun b h => Below.heap_setCell w3 ⟨out, 5, none⟩ v3 b h
  have hge : ∀ b, b < w2.heap.size → sv.ownBlock ≠ some b → w3.heap[b]? = w2.heap[b]? := fun b h1 h2 => (hgrow.block b (by simp; omega) (fun e => h2 e.symm)).trans (hal b h1)
  have hv3 : ∀ b, b < w2.heap.size → sv.ownBlock ≠ some b → v3.ownBlock ≠ some b := by
    intro b h1 h2 h3
    rcases hat with h | h
    · exact h2 (h.symm.trans h3)
    · rw [h3] at h
      simp at h
      omega
  refine ⟨?_, ?_, ?_, ?_⟩
  · exact (((HX.keep bx HX.low).over).grown hgrow (fun e => by have := (hsv _ e.symm).1; omega)).set5 v3
  · rw [List.flatMap_append]
    exact ownsRow_setCell_below hown (by show out < base; exact hb) _
  · refine MemEach.snoc (hM.keep (fun b hb2 => ?_)) (HE.keep (fun b hb2 => ?_))
    · have hn : sv.ownBlock ≠ some b := fun e => by have := (hsv _ e).2; omega
      exact ⟨⟨by omega, by rw [s4]; omega, hv3 b hb2.2 hn⟩, (hset b (by omega)).trans (hge b hb2.2 hn)⟩
    · exact ⟨⟨hb2.1, by rw [s4]; omega, hv3 b (by omega) hb2.2.2⟩, (hset b (by omega)).trans ((hge b (by omega) hb2.2.2).trans (bx.block b hb2.2.1))⟩
  · have b1 : Below out wr w2 := bx.mono (by omega)
    refine Below.setCell (p := ⟨out, 5, none⟩) (b1.trans ?_) (Nat.le_refl _) _
    exact ((Below.refl out w2).alloc (by omega) _).trans ⟨hgrow.os, hgrow.tape, hgrow.output, hgrow.size, fun k hk => hgrow.block k (by simp; omega) (fun e => by have := (hsv _ e.symm).1; omega)⟩

theorem bareL_snoc (ks : List Tree) (u : Tree) : bareL (ks ++ [u]) = bareL ks ++ [bareT u] := by
  induction ks with
  | nil => simp [bareL]
  | cons v vs ih => simp only [List.cons_append]; rw [bareL, bareL, ih]; rfl

set_option maxHeartbeats 2000000 in
theorem bare_nil (y : Bool) (c x : Int) (t : ByteArray) (a : Option Addr) (cap : Nat) (w : World) :
  Calls Tryd.prog 7 #[.agg #[.int .i64 5, .bool y, .int .i64 c, .int .i64 x, .string t, .slice a 0 cap]] w fun e w' => e = .returned (.agg #[.int .i64 5, .bool false, .int .i64 0, .int .i64 0, .string ⟨#[]⟩, .slice none 0 0]) ∧ Below w.heap.size w w' := by
  go_enter Tryd.func7, Tryd.ntmps7
  go_wp2
  go_loop [32] (fun i => i = .int .i64 0) (fun _ => 0)
  case atStart => rfl
  case round =>
    subst hrel
    go_wp2
    exact bodyPost_ret (v := .agg #[.int .i64 5, .bool false, .int .i64 0, .int .i64 0, .string ⟨#[]⟩, .slice none 0 0]) (by simp [results, Tryd.results7, go_sem]) rfl ⟨rfl, below3 _ _ _ _⟩

set_option maxHeartbeats 4000000 in
theorem bare_list (y : Bool) (c x : Int) (t : ByteArray) (ks : List Tree) (IH : ∀ u ∈ ks, BareC u) (hr : ∀ u ∈ ks, ∃ s d, (wrongF u s d).1 = 0) (hn : ks.length ≤ 200) (b off cap : Nat) (w : World) (hb : b < w.heap.size) (hm : MemL w.heap.size w ks b off) :
  Calls Tryd.prog 7 #[.agg #[.int .i64 5, .bool y, .int .i64 c, .int .i64 x, .string t, .slice (some ⟨b, off, none⟩) ks.length cap]] w fun e w' => ∃ v', e = .returned (.agg v') ∧ MemP (fun b => w.heap.size ≤ b ∧ b < w'.heap.size) w' (.mk 5 false 0 0 ⟨#[]⟩ (bareL ks)) v' ∧ Below w.heap.size w w' := by
  have IH' := hide IH
  have HR := hide hr
  have M1 := hide hm
  obtain ⟨i0, hi, hz0, hz1, hz2⟩ := info_parts info_val
  have HI := hide (And.intro hi (And.intro hz0 (And.intro hz1 hz2)))
  clear IH hr hm hi hz0 hz1 hz2
  go_enter Tryd.func7, Tryd.ntmps7
  go_wp2
  have W0 : Hid (Below (w.heap.size + 2) (((w.alloc (.cells #[.int .i64 5, .bool y, .int .i64 c, .int .i64 x, .string t, .slice (some ⟨b, off, none⟩) ks.length cap] 26)).alloc (.cells #[.int .i64 0, .bool false, .int .i64 0, .int .i64 0, .string ⟨#[]⟩, .slice none 0 0] 26))) ((((w.alloc (.cells #[.int .i64 5, .bool y, .int .i64 c, .int .i64 x, .string t, .slice (some ⟨b, off, none⟩) ks.length cap] 26)).alloc (.cells #[.int .i64 0, .bool false, .int .i64 0, .int .i64 0, .string ⟨#[]⟩, .slice none 0 0] 26))).alloc (.cells #[.int .i64 5, .bool false, .int .i64 0, .int .i64 0, .string ⟨#[]⟩, .slice none 0 0] 26))) := hide ((Below.refl _ _).alloc (by simp) _)
  have X0 : Hid (Box ((((w.alloc (.cells #[.int .i64 5, .bool y, .int .i64 c, .int .i64 x, .string t, .slice (some ⟨b, off, none⟩) ks.length cap] 26)).alloc (.cells #[.int .i64 0, .bool false, .int .i64 0, .int .i64 0, .string ⟨#[]⟩, .slice none 0 0] 26))).alloc (.cells #[.int .i64 5, .bool false, .int .i64 0, .int .i64 0, .string ⟨#[]⟩, .slice none 0 0] 26)) (w.heap.size + 1 + 1) #[.int .i64 5, .bool false, .int .i64 0, .int .i64 0, .string ⟨#[]⟩, .slice none 0 0]) := by
    have h := Box.new (w := ((w.alloc (.cells #[.int .i64 5, .bool y, .int .i64 c, .int .i64 x, .string t, .slice (some ⟨b, off, none⟩) ks.length cap] 26)).alloc (.cells #[.int .i64 0, .bool false, .int .i64 0, .int .i64 0, .string ⟨#[]⟩, .slice none 0 0] 26))) (t := 26) (a0 := .int .i64 5) (a1 := .bool false) (a2 := .int .i64 0) (a3 := .int .i64 0) (a4 := .string ⟨#[]⟩) (a5 := .slice none 0 0)
    exact hide (by simpa using h)
  go_loopw [32] (fun i wr => ∃ (m : Nat) (sv : Value) (css : List (Array Value)), m ≤ ks.length ∧ i = .int .i64 (m : Int) ∧ Hid (Box wr (w.heap.size + 1 + 1) #[.int .i64 5, .bool false, .int .i64 0, .int .i64 0, .string ⟨#[]⟩, sv]) ∧ Hid (wr.ownsRow (w.heap.size + 3) 26 6 sv m (css.flatMap Array.toList)) ∧ Hid (MemEach (fun b => w.heap.size + 3 ≤ b ∧ b < wr.heap.size ∧ sv.ownBlock ≠ some b) wr (bareL (ks.take m)) css) ∧ Hid (Below (w.heap.size + 2) (((w.alloc (.cells #[.int .i64 5, .bool y, .int .i64 c, .int .i64 x, .string t, .slice (some ⟨b, off, none⟩) ks.length cap] 26)).alloc (.cells #[.int .i64 0, .bool false, .int .i64 0, .int .i64 0, .string ⟨#[]⟩, .slice none 0 0] 26))) wr)) (fun i _ => ks.length - (intOf i).toNat)
  case atStart => exact ⟨0, .slice none 0 0, [], Nat.zero_le _, rfl, X0, hide (World.ownsRow_nil _ _ _ _), hide (by rw [List.take_zero, bareL, MemEach]; trivial), W0⟩
  case round =>
    obtain ⟨m, sv, css, hml, rfl, HX, HO, HE, HB⟩ := hrel
    clear X0 W0
    by_cases hlt : m < ks.length
    · have hi1 : (m : Int) < (ks.length : Int) := by omega
      obtain ⟨u, hu⟩ : ∃ u, ks[m]? = some u := ⟨_, List.getElem?_eq_getElem hlt⟩
      have hwB : Below w.heap.size w wr := (((Below.refl _ _).alloc (Nat.le_refl _) _).alloc (by simp) _).trans ((unhide HB).mono (by omega))
      obtain ⟨cs, h6, hmu⟩ := MemL.at (MemL.below hwB hb (unhide M1)) m u hu
      have HM := hide hmu
      have HC := hide (unhide IH' u (List.mem_of_getElem? hu))
      have HU := hide (unhide HR u (List.mem_of_getElem? hu))
      have HT : Hid (bareL (ks.take (m + 1)) = bareL (ks.take m) ++ [bareT u]) := hide (by rw [List.take_add_one, hu]; exact bareL_snoc _ _)
      cases u with
      | mk k1 y1 c1 x1 t1 kk1 =>
        rw [Mem] at hmu
        obtain ⟨_, _, a1, cap1, rfl, _⟩ := hmu
        obtain ⟨u0, u1, u2, u3, u4, u5, hu6, c0, c1', c2, c3, c4, c5⟩ := h6
        simp only [Array.mk.injEq, List.cons.injEq, and_true] at hu6
        obtain ⟨rfl, rfl, rfl, rfl, rfl, rfl⟩ := hu6
        obtain ⟨v0, v1, v2, v3, v4, v5⟩ := (unhide HX).tell
        obtain ⟨g0, g1, g2, g3, g4, g5⟩ := (unhide HX).thaw
        have lx := (unhide HX).low
        have hwB' := hide hwB
        clear hwB hu
        have CB := hide (fun wx (hx : Below wr.heap.size wr wx) => unhide HC wx _ (Mem.mono (Nat.le_trans (unhide hwB').size hx.size) (Mem.below (hx.mono (unhide hwB').size) (unhide HM))) (unhide HU))
        have KX := hide (fun wx (hx : Below wr.heap.size wr wx) => (unhide HX).keep hx (unhide HX).low)
        have KO := hide (fun wx (hx : Below wr.heap.size wr wx) => own_keep (unhide HO) hx)
        have KE := hide (fun wx wy o (hx : Below wr.heap.size wr wx) (hg : (wx.alloc o).grownBy wy sv.ownBlock) => (((unhide HX).keep hx (unhide HX).low).over (o := o)).grown hg (fun e => by have := ((unhide HO).lt _ e.symm).1; omega))
        clear HM HC HU
        go_wp2_with fail
        have B1 : Below wr.heap.size wr (wr.alloc (.cells #[.int .i64 k1, .bool y1, .int .i64 c1, .int .i64 x1, .string t1, .slice a1 kk1.length cap1] 26)).drew := ((Below.refl _ _).alloc (Nat.le_refl _) _).drew
        have B1' := hide B1
        clear B1
        go_region_law (first
          | (go_simp
             refine (unhide CB _ (unhide B1')).mono ?_
             rintro e w2 ⟨v', rfl, hM2, hb2⟩
             have one6 := hM2.one
             obtain ⟨e0, e1, e2, e3, e4, e5, rfl⟩ := hM2.six
             simp only at one6
             have bx2 := (unhide B1').trans (hb2.mono (by simp))
             have hz2 := bx2.size
             have X2 := unhide KX _ bx2
             have l2 := X2.low
             obtain ⟨z0, z1, z2, z3, z4, z5⟩ := X2.tell)
          | (refine step_append_own_at rfl _ _ 24 rfl (w.heap.size + 3) 26 i0 (.agg #[.int .i64 0, .bool false, .int .i64 0, .int .i64 0, .string ⟨#[]⟩, .slice none 0 0]) 6 72 Tryd.underlying24 (unhide HI).1 (unhide HI).2.1 (unhide HI).2.2.1 (unhide HI).2.2.2 rfl (by decide) sv m (css.flatMap Array.toList) rfl ((unhide KO _ bx2).alloc _) ⟨w2.heap.size, 0, none⟩ 1 1 [e0, e1, e2, e3, e4, e5] rfl rfl (cell_six_new _ _ _ _ _ _ _ _) one6 ?p1 ?p2 ?p3 ?_
             case p1 => unfold maxLen; omega
             case p2 => omega
             case p3 => simp; omega
             intro v3 w3 hown hgrow hat
             obtain ⟨gg, cc, rfl⟩ := own_slice hown
             have X3 := unhide KE _ _ _ bx2 hgrow
             obtain ⟨q0, q1, q2, q3, q4, q5⟩ := X3.tell
             obtain ⟨o0, o1, o2, o3, o4, o5⟩ := X3.thaw))
        all_goals
          have ST := bare_step (out := w.heap.size + 1 + 1) (base := w.heap.size + 3) (by omega) (by omega) (unhide HX) (unhide HO) (unhide HE) bx2 (hM2.keep (fun b hb => ⟨⟨by have := hb.1; simp at this; omega, hb.2⟩, rfl⟩)) hown hgrow hat
          rw [← unhide HT] at ST
          have HX3 := hide ST.1
          have HO3 := hide ST.2.1
          have HE3 := hide ST.2.2.1
          have HB3 := hide ((unhide HB).trans ST.2.2.2)
          clear ST HX HO HE HB X2 X3 z0 z1 z2 z3 z4 z5 q0 q1 q2 q3 q4 q5 o0 o1 o2 o3 o4 o5 hown hgrow hat hM2 hb2 one6 bx2 CB KX KO KE HT v0 v1 v2 v3 v4 v5 g0 g1 g2 g3 g4 g5 c0 c1' c2 c3 c4 c5
          go_wp2
          go_roundw
          case rel => exact ⟨m + 1, _, _, by omega, by go_num, HX3, HO3, HE3, HB3⟩
          case measure => simp [intOf]; omega
    · obtain rfl : m = ks.length := by omega
      have X5 := unhide HX
      have hfl := unhide HB
      have R5 : Box wr (w.heap.size + 1) #[.int .i64 0, .bool false, .int .i64 0, .int .i64 0, .string ⟨#[]⟩, .slice none 0 0] := by
        have h := Box.new (w := w.alloc (.cells #[.int .i64 5, .bool y, .int .i64 c, .int .i64 x, .string t, .slice (some ⟨b, off, none⟩) ks.length cap] 26)) (t := 26) (a0 := .int .i64 0) (a1 := .bool false) (a2 := .int .i64 0) (a3 := .int .i64 0) (a4 := .string ⟨#[]⟩) (a5 := .slice none 0 0)
        have h2 := h.keep hfl (by simp)
        simpa using h2
      have hwB : Below w.heap.size w wr := (((Below.refl _ _).alloc (Nat.le_refl _) _).alloc (by simp) _).trans (hfl.mono (by omega))
      have HWB := hide hwB
      obtain ⟨v0, v1, v2, v3, v4, v5⟩ := X5.tell
      obtain ⟨r0, r1, r2, r3, r4, r5⟩ := R5.tell
      obtain ⟨o0, o1, o2, o3, o4, o5⟩ := R5.thaw
      have lr := R5.low
      obtain ⟨sa, sl, sc, rfl⟩ : ∃ sa sl sc, sv = .slice sa sl sc := by
        rcases (unhide HO).2 with ⟨rfl, _⟩ | ⟨g, cap', cur, rfl, _⟩
        · exact ⟨_, _, _, rfl⟩
        · exact ⟨_, _, _, rfl⟩
      have lx := (unhide HX).low
      have FT : ∀ v0 v1 v2 v3 v4 v5 : Value, MemP (fun b => w.heap.size ≤ b ∧ b < (put6 wr (w.heap.size + 1) v0 v1 v2 v3 v4 v5).heap.size) (put6 wr (w.heap.size + 1) v0 v1 v2 v3 v4 v5) (.mk 5 false 0 0 ⟨#[]⟩ (bareL ks)) #[.int .i64 5, .bool false, .int .i64 0, .int .i64 0, .string ⟨#[]⟩, .slice sa sl sc] := by
        intro v0 v1 v2 v3 v4 v5
        have h := unhide HE
        rw [List.take_length] at h
        have h2 : MemP (fun b => w.heap.size + 3 ≤ b ∧ b < wr.heap.size) wr (.mk 5 false 0 0 ⟨#[]⟩ (bareL ks)) #[.int .i64 5, .bool false, .int .i64 0, .int .i64 0, .string ⟨#[]⟩, .slice sa sl sc] :=
          owned_tree (by rw [bareL_len]; exact unhide HO) h (fun b hb => ⟨hb.1, hb.2.1⟩) (fun g hg => (unhide HO).lt g hg) (by rw [bareL_len]; omega)
        have hp := But.put (p := w.heap.size + 1) (w := wr) (v0 := v0) (v1 := v1) (v2 := v2) (v3 := v3) (v4 := v4) (v5 := v5)
        exact h2.keep (fun b hb => ⟨⟨by omega, Nat.lt_of_lt_of_le hb.2 hp.size⟩, hp.block b hb.2 (by omega)⟩)
      replace FT := hide FT
      clear hfl hwB X5 R5
      go_wp2
      exact bodyPost_ret (v := .agg #[.int .i64 5, .bool false, .int .i64 0, .int .i64 0, .string ⟨#[]⟩, .slice sa sl sc]) (by simp [results, Tryd.results7, go_sem, r0, r1, r2, r3, r4, r5]) rfl ⟨_, rfl, unhide FT _ _ _ _ _ _, below_put6 (unhide HWB) (by omega)⟩

theorem rightL : ∀ (ks : List Tree) (s d : Nat), (wrongL ks s d).1 = 0 → ∀ u ∈ ks, ∃ s d, (wrongF u s d).1 = 0
  | [], _, _, _, u, h => by cases h
  | v :: vs, s, d, hw, u, h => by
    rw [wrongL] at hw
    by_cases hv : (wrongF v s d).1 = 0
    · rw [if_pos hv] at hw
      rcases List.mem_cons.1 h with rfl | h
      · exact ⟨s, d, hv⟩
      · exact rightL vs _ d hw u h
    · rw [if_neg hv] at hw
      exact absurd hw hv

theorem bare_of (k : Int) (y : Bool) (c x : Int) (t : ByteArray) (ks : List Tree) (IH : ∀ u ∈ ks, BareC u) : BareC (.mk k y c x t ks) := by
  intro w v hM hr
  rw [Mem] at hM
  obtain ⟨ht, hk, a, cap, rfl, hks⟩ := hM
  rw [bareT]
  by_cases h5 : k = 5
  · subst h5
    obtain ⟨s, d, hw⟩ := hr
    rw [wrongF] at hw
    by_cases h1 : 2000 < s + 1 ∨ 20 < d
    · rw [if_pos h1] at hw; exact absurd hw (by simp)
    rw [if_neg h1, if_neg (by omega), if_neg (by omega), if_neg (by omega), if_pos rfl] at hw
    by_cases h2 : 200 < ks.length
    · rw [if_pos h2] at hw; exact absurd hw (by simp)
    rw [if_neg h2] at hw
    have hq := rightL ks _ _ hw
    by_cases hn : ks = []
    · subst hn
      refine (bare_nil y c x t a cap w).mono ?_
      rintro e w' ⟨rfl, hb⟩
      refine ⟨_, rfl, ?_, hb⟩
      rw [MemP]
      exact ⟨by simp [ByteArray.size], by simp [bareL], none, 0, by simp [bareL], by simp [bareL]⟩
    · obtain ⟨b, off, rfl, hb, hm⟩ := hks hn
      have h := bare_list y c x t ks IH hq (by omega) b off cap w hb hm
      simpa using h
  · refine (bare_plain k y c x t ks.length a cap w h5).mono ?_
    rintro e w' ⟨rfl, hb⟩
    refine ⟨_, rfl, ?_, hb⟩
    rw [if_neg h5, MemP]
    refine ⟨?_, by simp, none, 0, rfl, by simp⟩
    split
    · exact ht
    · simp [ByteArray.size]

mutual
theorem bare_all : ∀ T : Tree, BareC T
  | .mk k y c x t ks => bare_of k y c x t ks (fun u h => bare_alls ks u h)
theorem bare_alls : ∀ (ks : List Tree) (u : Tree), u ∈ ks → BareC u
  | [], u, h => by cases h
  | v :: vs, u, h => by
    by_cases e : u = v
    · rw [e]; exact bare_all v
    · exact bare_alls vs u ((List.mem_cons.1 h).resolve_left e)
end
end Go.Proofs.YthhdgimphnbjbaaDoor
