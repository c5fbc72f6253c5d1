/- Walks: replies; a version more. -/
import Derived.Test.YtnegjbkbfgkkjaaGreatDoorG38
import Derived.Test.YtnegjbkbfgkkjaaGreatDoorG34
import Derived.Test.YtnegjbkbfgkkjaaGreatDoorG35
namespace Go.Proofs.YtnegjbkbfgkkjaaGreatDoor
open Go.RowKit Go.MapKept

set_option maxRecDepth 100000 in
set_option maxHeartbeats 4000000 in
theorem refused_any (k : Int) (w : World) : Calls Tryz.prog 18 #[.int .i64 k] w fun e w' => e = .returned (.agg #[.int .i64 k, .int .i64 0]) ∧ Below w.heap.size w w' := by
  go_enter Tryz.func18, Tryz.ntmps18
  go_wp2_with fail
  exact bodyPost_ret (v := .agg #[.int .i64 k, .int .i64 0]) (by simp [results, Tryz.results18, go_sem]) rfl ⟨rfl, vbelow_new _ _⟩

set_option maxRecDepth 100000 in
set_option maxHeartbeats 4000000 in
theorem counting_any (s : ByteArray) (nx now : Int) (a : Option Addr) (n c : Nat) (w : World) : Calls Tryz.prog 57 #[.agg #[.string s, .int .i64 nx, .int .i64 now, .slice a n c]] w fun e w' => e = .returned (.agg #[.int .i64 0, .int .i64 now]) ∧ Below w.heap.size w w' := by
  go_enter Tryz.func57, Tryz.ntmps57
  go_wp2_with fail
  exact bodyPost_ret (v := .agg #[.int .i64 0, .int .i64 now]) (by simp [results, Tryz.results57, go_sem]) rfl ⟨rfl, below_via (vbelow_new _ _) (vbelow_new _ _)⟩

/-- an entry with a version more -/
structure NextP (B L : Nat) (w : World) (s : ByteArray) (nx : Int) (kv : Value) (l : List (Rp.Ver TbT)) (t : TbT) (v : Value) (w' : World) : Prop where
  tell : ∃ kv' css, v = .agg #[.string s, .int .i64 (nx + 1), .int .i64 nx, kv'] ∧ Rows12 6 (VeM B w') (Rp.pushed l ⟨nx, t⟩ 3) css ∧ w'.ownsRow L 56 6 kv' (Rp.pushed l ⟨nx, t⟩ 3).length css.flatten ∧ (kv'.ownBlock = kv.ownBlock ∨ ∃ b, kv'.ownBlock = some b ∧ w.heap.size ≤ b)
  grown : w.grownBy w' kv.ownBlock
theorem Rows12.imp {α : Type} {k : Nat} {R R' : α → Array Value → Prop} {l : List α} {css : List (List Value)} (h : Rows12 k R l css) (hR : ∀ x cs, R x cs → R' x cs) : Rows12 k R' l css :=
  ⟨h.len, fun i x hx => by obtain ⟨c, h1, h2, h3⟩ := h.each i x hx; exact ⟨c, h1, h2, hR x _ h3⟩⟩
theorem Rows12.app {α : Type} {k : Nat} {R : α → Array Value → Prop} {l : List α} {css : List (List Value)} (h : Rows12 k R l css) {x : α} {c : List Value} (hc : c.length = k) (hx : R x c.toArray) : Rows12 k R (l ++ [x]) (css ++ [c]) := by
  refine ⟨by simp [h.len], fun i y hy => ?_⟩
  rcases Nat.lt_or_ge i l.length with q | q
  · rw [List.getElem?_append_left q] at hy
    obtain ⟨d, h1, h2, h3⟩ := h.each i y hy
    exact ⟨d, by rw [List.getElem?_append_left (by rw [h.len]; exact q)]; exact h1, h2, h3⟩
  · rw [List.getElem?_append_right q] at hy
    have hi : i = l.length := by
      have := (List.getElem?_eq_some_iff.1 hy).1
      simp at this
      omega
    subst hi
    simp at hy
    subst hy
    exact ⟨c, by rw [List.getElem?_append_right (by rw [h.len]; exact Nat.le_refl _)]; simp [h.len], hc, hx⟩
theorem Rows12.drop1 {α : Type} {k : Nat} {R : α → Array Value → Prop} {l : List α} {css : List (List Value)} (h : Rows12 k R l css) : Rows12 k R (l.drop 1) (css.drop 1) :=
  ⟨by simp [h.len], fun i x hx => by rw [List.getElem?_drop] at hx; obtain ⟨c, h1, h2, h3⟩ := h.each _ x hx; exact ⟨c, by rw [List.getElem?_drop]; exact h1, h2, h3⟩⟩
theorem flat_drop1 {k : Nat} (css : List (List Value)) (hk : ∀ c ∈ css, c.length = k) (h0 : css ≠ []) : css.flatten.drop k = (css.drop 1).flatten := by
  cases css with
  | nil => exact absurd rfl h0
  | cons c css =>
    have := hk c List.mem_cons_self
    rw [List.flatten_cons, List.drop_append_of_le_length (by omega), List.drop_of_length_le (by omega)]
    rfl

theorem own_sameT {B : Nat} {w w' : World} {e : TypeId} {k n : Nat} {v : Value} {xs : List Value} (h : w.ownsRow B e k v n xs) (hb : ∀ b, v.ownBlock = some b → w'.heap[b]? = w.heap[b]?) : w'.ownsRow B e k v n xs := by
  obtain ⟨h1, h2⟩ := h
  refine ⟨h1, ?_⟩
  rcases h2 with h2 | ⟨g, cap, cur, hv, hg, hh, r⟩
  · exact .inl h2
  · exact .inr ⟨g, cap, cur, hv, hg, (hb g (by rw [hv]; rfl)).trans hh, r⟩
theorem own_ltT {B : Nat} {w : World} {e : TypeId} {k n : Nat} {v : Value} {xs : List Value} (h : w.ownsRow B e k v n xs) : ∀ b, v.ownBlock = some b → B ≤ b ∧ b < w.heap.size := by
  intro b hb
  rcases h.2 with ⟨rfl, _⟩ | ⟨g, cap, cur, rfl, hg, hh, _⟩
  · simp [Value.ownBlock] at hb
  · simp [Value.ownBlock] at hb
    subst hb
    exact ⟨hg, (Array.getElem?_eq_some_iff.1 hh).1⟩
/-- what stands in a new block of four cells -/
structure N4 (w : World) (b : Nat) (v0 v1 v2 v3 : Value) : Prop where
  c0 : w.cell? ⟨b, 0, none⟩ = some v0
  c1 : w.cell? ⟨b, 1, none⟩ = some v1
  c2 : w.cell? ⟨b, 2, none⟩ = some v2
  c3 : w.cell? ⟨b, 3, none⟩ = some v3
  f0 : w.frozen? ⟨b, 0, none⟩ = false
  f1 : w.frozen? ⟨b, 1, none⟩ = false
  f2 : w.frozen? ⟨b, 2, none⟩ = false
  f3 : w.frozen? ⟨b, 3, none⟩ = false
theorem N4.new (w : World) (t : TypeId) (v0 v1 v2 v3 : Value) : N4 (w.alloc (.cells #[v0, v1, v2, v3] t)) w.heap.size v0 v1 v2 v3 := ⟨by go_simp, by go_simp, by go_simp, by go_simp, by go_simp, by go_simp, by go_simp, by go_simp⟩
theorem N4.same {w w' : World} {b : Nat} {v0 v1 v2 v3 : Value} (h : N4 w b v0 v1 v2 v3) (hb : w'.heap[b]? = w.heap[b]?) : N4 w' b v0 v1 v2 v3 := by
  have c : ∀ o, w'.cell? ⟨b, o, none⟩ = w.cell? ⟨b, o, none⟩ := fun o => World.cell?_of_block (w := w) (a := ⟨b, o, none⟩) hb
  have f : ∀ o, w'.frozen? ⟨b, o, none⟩ = w.frozen? ⟨b, o, none⟩ := fun o => World.frozen?_of_block (w := w) (a := ⟨b, o, none⟩) hb
  exact ⟨by rw [c]; exact h.c0, by rw [c]; exact h.c1, by rw [c]; exact h.c2, by rw [c]; exact h.c3, by rw [f]; exact h.f0, by rw [f]; exact h.f1, by rw [f]; exact h.f2, by rw [f]; exact h.f3⟩

/-- the world behind it -/
def finE (w : World) (b r : Nat) (s nx1 nx kv : Value) : World := ((((((w.setCell ⟨b, 3, none⟩ kv).setCell ⟨b, 2, none⟩ nx).setCell ⟨b, 1, none⟩ nx1).setCell ⟨r, 0, none⟩ s).setCell ⟨r, 1, none⟩ nx1).setCell ⟨r, 2, none⟩ nx).setCell ⟨r, 3, none⟩ kv
theorem finE_block {w : World} {b r : Nat} {s nx1 nx kv : Value} {k : Nat} (h1 : k ≠ b) (h2 : k ≠ r) : (finE w b r s nx1 nx kv).heap[k]? = w.heap[k]? := by
  unfold finE
  rw [heap_setCell_other _ _ _ _ h2, heap_setCell_other _ _ _ _ h2, heap_setCell_other _ _ _ _ h2, heap_setCell_other _ _ _ _ h2, heap_setCell_other _ _ _ _ h1, heap_setCell_other _ _ _ _ h1, heap_setCell_other _ _ _ _ h1]
theorem setCell_rest (w : World) (a : Addr) (v : Value) : (w.setCell a v).os = w.os ∧ (w.setCell a v).tape = w.tape ∧ (w.setCell a v).output = w.output := ⟨rfl, rfl, rfl⟩
theorem finE_rest (w : World) (b r : Nat) (s nx1 nx kv : Value) : (finE w b r s nx1 nx kv).os = w.os ∧ (finE w b r s nx1 nx kv).tape = w.tape ∧ (finE w b r s nx1 nx kv).output = w.output := by
  unfold finE
  simp only [setCell_rest, and_self]
theorem finE_size (w : World) (b r : Nat) (s nx1 nx kv : Value) : (finE w b r s nx1 nx kv).heap.size = w.heap.size := by simp [finE, World.setCell]
theorem pushed_len {α : Type} (l : List α) (x : α) (m : Nat) : (Rp.pushed l x m).length = if m < l.length + 1 then l.length else l.length + 1 := by
  unfold Rp.pushed
  split <;> simp
theorem push_rows {α : Type} {R : α → Array Value → Prop} {k : Nat} {l : List α} {css : List (List Value)} {x : α} {c : List Value} (m : Nat) (h : Rows12 k R l css) (hc : c.length = k) (hx : R x c.toArray) :
    Rows12 k R (Rp.pushed l x m) (Rp.pushed css c m) ∧ (if m < l.length + 1 then (css.flatten ++ c).drop k else css.flatten ++ c) = (Rp.pushed css c m).flatten := by
  have ha := h.app hc hx
  unfold Rp.pushed
  rw [h.len]
  split
  · refine ⟨ha.drop1, ?_⟩
    rw [← flat_drop1 (css ++ [c]) ha.width (by simp), List.flatten_append, List.flatten_cons, List.flatten_nil, List.append_nil]
  · refine ⟨ha, ?_⟩
    rw [List.flatten_append, List.flatten_cons, List.flatten_nil, List.append_nil]

theorem next_fin {B L : Nat} {w w1 w2 : World} {s : ByteArray} {nx : Int} {kv : Value} {l : List (Rp.Ver TbT)} {t : TbT} {kg kn2 kcap : Nat} {css : List (List Value)} (hb1 : Below w.heap.size w w1) (sz : w1.heap.size = w.heap.size + 3) (hgr : w1.grownBy w2 kv.ownBlock) (LT : ∀ b, kv.ownBlock = some b → L ≤ b ∧ b < w.heap.size) (hB : B ≤ L) (hL : L ≤ w.heap.size)
    (hat : (Value.slice (some ⟨kg, 0, none⟩) kn2 kcap).ownBlock = kv.ownBlock ∨ ∃ b, (Value.slice (some ⟨kg, 0, none⟩) kn2 kcap).ownBlock = some b ∧ w1.heap.size ≤ b) (rows : Rows12 6 (VeM B w1) (Rp.pushed l ⟨nx, t⟩ 3) css) (own : w2.ownsRow L 56 6 (.slice (some ⟨kg, 0, none⟩) kn2 kcap) (Rp.pushed l ⟨nx, t⟩ 3).length css.flatten) :
    NextP B L w s nx kv l t (.agg #[.string s, .int .i64 (nx + 1), .int .i64 nx, .slice (some ⟨kg, 0, none⟩) kn2 kcap]) (finE w2 w.heap.size (w.heap.size + 2) (.string s) (.int .i64 (nx + 1)) (.int .i64 nx) (.slice (some ⟨kg, 0, none⟩) kn2 kcap)) := by
  obtain ⟨v', hv'⟩ : ∃ v', v' = Value.slice (some ⟨kg, 0, none⟩) kn2 kcap := ⟨_, rfl⟩
  have hk0 : v'.ownBlock = some kg := by rw [hv']; rfl
  rw [← hv'] at hat own ⊢
  clear hv'
  have hgt := hgr.size
  obtain ⟨hr1, hr2, hr3⟩ := finE_rest w2 w.heap.size (w.heap.size + 2) (.string s) (.int .i64 (nx + 1)) (.int .i64 nx) v'
  have hfb : ∀ k, k ≠ w.heap.size → k ≠ w.heap.size + 2 → (finE w2 w.heap.size (w.heap.size + 2) (.string s) (.int .i64 (nx + 1)) (.int .i64 nx) v').heap[k]? = w2.heap[k]? := fun k h1 h2 => finE_block h1 h2
  have hfs := finE_size w2 w.heap.size (w.heap.size + 2) (.string s) (.int .i64 (nx + 1)) (.int .i64 nx) v'
  generalize finE w2 w.heap.size (w.heap.size + 2) (.string s) (.int .i64 (nx + 1)) (.int .i64 nx) v' = WF at *
  have hlow : ∀ k, k < w.heap.size → kv.ownBlock ≠ some k → WF.heap[k]? = w1.heap[k]? := fun k hk hne => by
    rw [hfb k (by omega) (by omega)]
    exact hgr.block k (by omega) (fun e => hne e.symm)
  have hkg : kg ≠ w.heap.size ∧ kg ≠ w.heap.size + 2 := by
    rcases hat with q | ⟨b, q, hb⟩
    · have := (LT kg (q.symm.trans hk0)).2
      omega
    · have e := Option.some.inj (q.symm.trans hk0)
      omega
  have hbe : Below B w1 WF :=
    ⟨hr1.trans hgr.os, hr2.trans hgr.tape, hr3.trans hgr.output, by rw [hfs]; exact hgt, fun k hk => hlow k (by omega) (fun e => by have := (LT k e).1; omega)⟩
  refine ⟨⟨v', css, rfl, rows.imp fun x cs h => VeM.below hbe h, own_sameT own (fun b hb => ?_), ?_⟩, ⟨hr1.trans (hgr.os.trans hb1.os), hr2.trans (hgr.tape.trans hb1.tape), hr3.trans (hgr.output.trans hb1.output), ?_, fun k hk hne => (hlow k hk (fun e => hne e.symm)).trans (hb1.block k hk)⟩⟩
  · have e := Option.some.inj (hk0.symm.trans hb)
    subst e
    exact hfb _ hkg.1 hkg.2
  · rcases hat with q | ⟨b, q, hb⟩
    · exact .inl q
    · exact .inr ⟨b, q, by omega⟩
  · rw [hfs]
    have := hb1.size
    omega

set_option maxRecDepth 100000 in
set_option maxHeartbeats 8000000 in
theorem withNext_any {B L : Nat} (s : ByteArray) (nx now : Int) (ka : Option Addr) (kn kc : Nat) (l : List (Rp.Ver TbT)) (css : List (List Value)) (t : TbT) (tc : Array Value) (w : World) (hnx : -1000000000000000000 ≤ nx ∧ nx ≤ 1000000000000000000) (hkn : kn = l.length) (hl : l.length ≤ 100) (hB : B ≤ L) (hL : L ≤ w.heap.size)
    (hr : Rows12 6 (VeM B w) l css) (ho : w.ownsRow L 56 6 (.slice ka kn kc) l.length css.flatten) (ht : TbM B w t tc) :
    Calls Tryz.prog 56 #[.agg #[.string s, .int .i64 nx, .int .i64 now, .slice ka kn kc], .agg tc] w fun e w' => ∃ v, e = .returned v ∧ NextP B L w s nx (.slice ka kn kc) l t v w' := by
  subst hkn
  obtain ⟨ia, oa, ra, ic, oc, rc, rfl⟩ := ht.open
  have hw : IntKind.i64.wrap (nx + 1) = nx + 1 := by rw [IntKind.wrap_i64]; omega
  obtain ⟨w1, hw1⟩ : ∃ w1, w1 = ((w.alloc (.cells #[.string s, .int .i64 nx, .int .i64 now, .slice ka l.length kc] 54)).alloc (.cells #[.string t.name, .int .i64 t.pol, .slice ia t.ins.length ic, .slice oa t.outs.length oc, .slice ra t.rules.length rc] 34)).alloc (.cells #[.string ⟨#[]⟩, .int .i64 0, .int .i64 0, .slice none 0 0] 54) := ⟨_, rfl⟩
  have b1 : Below w.heap.size w w1 := by rw [hw1]; exact below_via (below_via (vbelow_new _ _) (vbelow_new _ _)) (vbelow_new _ _)
  have PU := push_Version nx t.name t.pol ia t.ins.length ic oa t.outs.length oc ra t.rules.length rc L l.length 3 (.slice ka l.length kc) css.flatten w1 (own_keepT ho b1) (one_rows hr fun x c h => one_Version h) (by omega) (Nat.le_trans hL b1.size)
  rw [show ((3 : Nat) : Int) = 3 from rfl] at PU
  have sz1 : w1.heap.size = w.heap.size + 3 := by rw [hw1]; simp
  have E1 : N4 w1 w.heap.size (.string s) (.int .i64 nx) (.int .i64 now) (.slice ka l.length kc) := by
    rw [hw1]
    refine N4.same (N4.new w 54 _ _ _ _) ?_
    exact (below_via (vbelow_new (w.alloc (.cells #[.string s, .int .i64 nx, .int .i64 now, .slice ka l.length kc] 54)) _) (vbelow_new _ _)).block w.heap.size (by simp)
  have R1 : N4 w1 (w.heap.size + 2) (.string ⟨#[]⟩) (.int .i64 0) (.int .i64 0) (.slice none 0 0) := by
    rw [hw1]
    have := N4.new ((w.alloc (.cells #[.string s, .int .i64 nx, .int .i64 now, .slice ka l.length kc] 54)).alloc (.cells #[.string t.name, .int .i64 t.pol, .slice ia t.ins.length ic, .slice oa t.outs.length oc, .slice ra t.rules.length rc] 34)) 54 (.string ⟨#[]⟩) (.int .i64 0) (.int .i64 0) (.slice none 0 0)
    simpa using this
  have T1 : V5 w1 (w.heap.size + 1) (.string t.name) (.int .i64 t.pol) (.slice ia t.ins.length ic) (.slice oa t.outs.length oc) (.slice ra t.rules.length rc) := by
    rw [hw1]
    have := (V5.new (w.alloc (.cells #[.string s, .int .i64 nx, .int .i64 now, .slice ka l.length kc] 54)) 34 (.string t.name) (.int .i64 t.pol) (.slice ia t.ins.length ic) (.slice oa t.outs.length oc) (.slice ra t.rules.length rc)).keep (vbelow_new _ (.cells #[.string ⟨#[]⟩, .int .i64 0, .int .i64 0, .slice none 0 0] 54)) (by simp)
    simpa using this
  have LT := hide (own_ltT ho)
  have HPU := hide PU
  have HB1 := hide b1
  have HE1 := hide E1
  have HR1 := hide R1
  have HT := hide (ht.below (b1.mono (Nat.le_trans hB hL)))
  have HRW := hide hr
  have SZ := hide sz1
  obtain ⟨e0, e1, e2, e3, _, _, _, _⟩ := E1
  obtain ⟨t0, t1, t2, t3, t4⟩ := T1.tell
  clear PU b1 R1 T1 ht hr ho sz1
  go_enter Tryz.func56, Tryz.ntmps56
  go_upto_region 1 with fail
  rw [← hw1]
  clear hw1
  go_wp2_with fail
  refine (unhide HPU).mono ?_
  rintro e w2 ⟨kv', rfl, hown, hgr, hat⟩
  have K2 : ∀ b, w.heap.size ≤ b → b < w.heap.size + 3 → w2.heap[b]? = w1.heap[b]? := fun b h1 h2 => hgr.block b (by have := unhide SZ; omega) (fun e => by have := (unhide LT b e.symm).2; omega)
  have E2 := (unhide HE1).same (K2 _ (by omega) (by omega))
  have R2 := (unhide HR1).same (K2 (w.heap.size + 2) (by omega) (by omega))
  obtain ⟨rows2, hfl⟩ := push_rows (R := VeM B w1) (x := (⟨nx, t⟩ : Rp.Ver TbT)) (c := [.int .i64 nx, .string t.name, .int .i64 t.pol, .slice ia t.ins.length ic, .slice oa t.outs.length oc, .slice ra t.rules.length rc]) 3 ((unhide HRW).imp fun x cs => VeM.below ((unhide HB1).mono (Nat.le_trans hB hL))) rfl ⟨_, _, _, _, _, rfl, unhide HT⟩
  rw [hfl, ← pushed_len l (⟨nx, t⟩ : Rp.Ver TbT) 3] at hown
  have hpos : 0 < (Rp.pushed l (⟨nx, t⟩ : Rp.Ver TbT) 3).length := by rw [pushed_len]; split <;> omega
  have HRW2 := hide rows2
  have HOWN := hide hown
  have HGR := hide hgr
  have HAT := hide hat
  obtain ⟨kg, kcap, kcur, hkv, _⟩ := own_at12 hown hpos
  obtain ⟨kn2, hkn2⟩ : ∃ kn2, kn2 = (Rp.pushed l (⟨nx, t⟩ : Rp.Ver TbT) 3).length := ⟨_, rfl⟩
  rw [← hkn2] at hkv
  subst hkv
  obtain ⟨x0, x1, x2, x3, g0, g1, g2, g3⟩ := E2
  obtain ⟨y0, y1, y2, y3, k0, k1, k2, k3⟩ := R2
  clear hown hgr hat K2 e0 e1 e2 e3 t0 t1 t2 t3 t4 HPU rows2 hfl hpos hkn2
  go_wp2
  refine bodyPost_ret (v := .agg #[.string s, .int .i64 (nx + 1), .int .i64 nx, .slice (some ⟨kg, 0, none⟩) kn2 kcap]) (by simp [results, Tryz.results56, go_sem, y0, y1, y2, y3]) rfl ⟨_, rfl, ?_⟩
  exact next_fin (unhide HB1) (unhide SZ) (unhide HGR) (unhide LT) hB hL (unhide HAT) (unhide HRW2) (unhide HOWN)
end Go.Proofs.YtnegjbkbfgkkjaaGreatDoor

/- Walks: a session's seat. -/
namespace Go.Proofs.YtnegjbkbfgkkjaaGreatDoor
open Go.RowKit Go.MapKept

theorem ixN_spec {α : Type} (p : α → Bool) : ∀ (l : List α) (k : Nat), (ixN p l k = -1 ∧ ∀ x ∈ l, p x = false) ∨ ∃ i x, ixN p l k = ((k + i : Nat) : Int) ∧ l[i]? = some x ∧ p x = true ∧ ∀ y ∈ l.take i, p y = false
  | [], k => .inl ⟨rfl, fun x hx => by cases hx⟩
  | x :: l, k => by
    by_cases h : p x = true
    · exact .inr ⟨0, x, by rw [ixN, if_pos h]; rfl, rfl, h, fun y hy => by simp at hy⟩
    · have h' : p x = false := by simpa using h
      rcases ixN_spec p l (k + 1) with ⟨h1, h2⟩ | ⟨i, y, h1, h2, h3, h4⟩
      · refine .inl ⟨by rw [ixN, if_neg h]; exact h1, fun z hz => ?_⟩
        rcases List.mem_cons.1 hz with e | e
        · rw [e]; exact h'
        · exact h2 z e
      · refine .inr ⟨i + 1, y, by rw [ixN, if_neg h, h1]; congr 1; omega, h2, h3, fun z hz => ?_⟩
        rw [List.take_succ_cons] at hz
        rcases List.mem_cons.1 hz with e | e
        · rw [e]; exact h'
        · exact h4 z e
/-- no two sessions are one -/
def Dist (l : List Rp.Seat) : Prop := ∀ (i j : Nat) (x y : Rp.Seat), l[i]? = some x → l[j]? = some y → x.session = y.session → i = j
theorem filter_del {l : List Rp.Seat} (hd : Dist l) {i : Nat} {x : Rp.Seat} (hx : l[i]? = some x) : l.filter (fun y => decide (y.session ≠ x.session)) = l.take i ++ l.drop (i + 1) := by
  have hi := (List.getElem?_eq_some_iff.1 hx).1
  have e : l = l.take i ++ x :: l.drop (i + 1) := by
    rw [← (List.getElem?_eq_some_iff.1 hx).2, ← List.drop_eq_getElem_cons hi, List.take_append_drop]
  have h1 : (l.take i).filter (fun y => decide (y.session ≠ x.session)) = l.take i := List.filter_eq_self.2 fun y hy => by
    obtain ⟨j, hj⟩ := List.getElem?_of_mem hy
    rw [List.getElem?_take] at hj
    split at hj
    · rename_i q
      have : y.session ≠ x.session := fun e => by have := hd j i y x hj hx e; omega
      simpa using this
    · cases hj
  have h2 : (l.drop (i + 1)).filter (fun y => decide (y.session ≠ x.session)) = l.drop (i + 1) := List.filter_eq_self.2 fun y hy => by
    obtain ⟨j, hj⟩ := List.getElem?_of_mem hy
    rw [List.getElem?_drop] at hj
    have : y.session ≠ x.session := fun e => by have := hd _ i y x hj hx e; omega
    simpa using this
  conv => lhs; rw [e]
  rw [List.filter_append, List.filter_cons, h1, h2]
  simp
theorem Rows12.del {α : Type} {k : Nat} {R : α → Array Value → Prop} {l : List α} {css : List (List Value)} (h : Rows12 k R l css) (i : Nat) : Rows12 k R (l.take i ++ l.drop (i + 1)) (css.take i ++ css.drop (i + 1)) := by
  refine ⟨by simp [h.len], fun j x hx => ?_⟩
  rcases Nat.lt_or_ge j (l.take i).length with q | q
  · rw [List.getElem?_append_left q, List.getElem?_take] at hx
    split at hx
    · obtain ⟨c, h1, h2, h3⟩ := h.each j x hx
      exact ⟨c, by rw [List.getElem?_append_left (by rw [List.length_take, h.len, ← List.length_take]; exact q), List.getElem?_take, if_pos (by assumption)]; exact h1, h2, h3⟩
    · cases hx
  · rw [List.getElem?_append_right q, List.getElem?_drop] at hx
    obtain ⟨c, h1, h2, h3⟩ := h.each _ x hx
    refine ⟨c, ?_, h2, h3⟩
    rw [List.getElem?_append_right (by rw [List.length_take, h.len, ← List.length_take]; exact q), List.getElem?_drop, List.length_take, h.len, ← List.length_take]
    exact h1
theorem flat_take {k : Nat} : ∀ (css : List (List Value)) (i : Nat), (∀ c ∈ css, c.length = k) → css.flatten.take (i * k) = (css.take i).flatten
  | [], i, _ => by simp
  | c :: css, 0, _ => by simp
  | c :: css, i + 1, hk => by
    have := hk c List.mem_cons_self
    rw [List.flatten_cons, List.take_succ_cons, List.flatten_cons, ← flat_take css i fun d hd => hk d (List.mem_cons_of_mem _ hd), List.take_append, List.take_of_length_le (by rw [this, Nat.add_mul]; omega), this, show (i + 1) * k - k = i * k by rw [Nat.add_mul]; omega]
theorem flat_drop {k : Nat} : ∀ (css : List (List Value)) (i : Nat), (∀ c ∈ css, c.length = k) → css.flatten.drop (i * k) = (css.drop i).flatten
  | [], i, _ => by simp
  | c :: css, 0, _ => by simp
  | c :: css, i + 1, hk => by
    have := hk c List.mem_cons_self
    rw [List.flatten_cons, List.drop_succ_cons, ← flat_drop css i fun d hd => hk d (List.mem_cons_of_mem _ hd), List.drop_append, List.drop_of_length_le (by rw [this, Nat.add_mul]; omega), this, show (i + 1) * k - k = i * k by rw [Nat.add_mul]; omega, List.nil_append]
theorem flat_del {k : Nat} (css : List (List Value)) (i : Nat) (hk : ∀ c ∈ css, c.length = k) : css.flatten.take (i * k) ++ css.flatten.drop ((i + 1) * k) = (css.take i ++ css.drop (i + 1)).flatten := by
  rw [List.flatten_append, flat_take css i hk, flat_drop css (i + 1) hk]

set_option maxRecDepth 100000 in
set_option maxHeartbeats 8000000 in
theorem seated_any {L : Nat} (l : List Rp.Seat) (css : List (List Value)) (v : Value) (ss sq se sv : Int) (w : World) (hL : L ≤ w.heap.size) (hl : l.length ≤ 90) (hd : Dist l) (hr : Rows12 4 SeM l css) (ho : w.ownsRow L 49 4 v l.length css.flatten) :
    Calls Tryz.prog 21 #[v, .agg #[.int .i64 ss, .int .i64 sq, .int .i64 se, .int .i64 sv]] w fun e w' => ∃ v' css', e = .returned v' ∧ Rows12 4 SeM (Rp.seated l ⟨ss, sq, ⟨se, sv⟩⟩) css' ∧ w'.ownsRow L 49 4 v' (Rp.seated l ⟨ss, sq, ⟨se, sv⟩⟩).length css'.flatten ∧ w.grownBy w' v.ownBlock ∧ (v'.ownBlock = v.ownBlock ∨ ∃ b, v'.ownBlock = some b ∧ w.heap.size ≤ b) := by
  obtain ⟨w1, hw1⟩ : ∃ w1, w1 = w.alloc (.cells #[.int .i64 ss, .int .i64 sq, .int .i64 se, .int .i64 sv] 49) := ⟨_, rfl⟩
  have b1 : Below w.heap.size w w1 := by rw [hw1]; exact vbelow_new _ _
  have N1 : N4 w1 w.heap.size (.int .i64 ss) (.int .i64 sq) (.int .i64 se) (.int .i64 sv) := by rw [hw1]; exact N4.new _ _ _ _ _ _
  have sz1 : w1.heap.size = w.heap.size + 1 := by rw [hw1]; simp
  have ho1 := own_keepT ho b1
  have AT := hide (seatAt_any l v ss w1 (rows_ls hr ho1 (Nat.le_refl _)).1)
  have HO1 := hide ho1
  have HB1 := hide b1
  have HN1 := hide N1
  have SZ := hide sz1
  have LT := hide (own_ltT ho)
  obtain ⟨va, vc, hv⟩ : ∃ a c, v = .slice a l.length c := by
    rcases ho.2 with ⟨e, e0⟩ | ⟨g, cap, cur, e, _⟩
    · exact ⟨none, 0, by rw [e, e0]⟩
    · exact ⟨_, _, e⟩
  obtain ⟨c0, c1, c2, c3, _, _, _, _⟩ := N1
  clear ho1 b1 sz1 ho
  subst hv
  have SP := ixN_spec (fun x : Rp.Seat => x.session == ss) l 0
  generalize ixN (fun x : Rp.Seat => x.session == ss) l 0 = X at AT SP
  go_enter Tryz.func21, Tryz.ntmps21
  go_upto_region 1 with fail
  rw [← hw1]
  clear hw1
  go_wp2_with fail
  refine (unhide AT).mono ?_
  rintro e w2 ⟨rfl, hb2⟩
  have HB2 := hide hb2
  have N2 := (unhide HN1).same (hb2.block w.heap.size (by have := unhide SZ; omega))
  have HO2 := hide (own_keepT (unhide HO1) hb2)
  have hz2 : w.heap.size + 1 ≤ w2.heap.size := by have := unhide SZ; have := hb2.size; omega
  clear hb2 AT c0 c1 c2 c3
  rcases SP with ⟨hX, hnone⟩ | ⟨i, x, hX, hx, hp, hfst⟩
  · subst hX
    have EQ : l.filter (fun y => decide (y.session ≠ ss)) = l := List.filter_eq_self.2 fun y hy => by
      have := hnone y hy
      simpa using this
    obtain ⟨c0, c1, c2, c3, _, _, _, _⟩ := N2
    have PU := push_Seat ss sq se sv L l.length 4 _ css.flatten w2 (unhide HO2) (one_rows hr fun x c h => one_Seat h) (by omega) (by omega)
    rw [show ((4 : Nat) : Int) = 4 from rfl] at PU
    have HPU := hide PU
    have HR := hide hr
    have HEQ := hide EQ
    clear PU hr EQ hnone
    go_wp2_with fail
    refine (unhide HPU).mono ?_
    rintro e w3 ⟨v', rfl, hown, hgr, hat⟩
    have HW := hide (And.intro hown (And.intro hgr hat))
    clear hown hgr hat HPU
    go_wp2
    go_ret
    obtain ⟨hown, hgr, hat⟩ := unhide HW
    obtain ⟨rows2, hfl⟩ := push_rows (x := (⟨ss, sq, ⟨se, sv⟩⟩ : Rp.Seat)) (c := [.int .i64 ss, .int .i64 sq, .int .i64 se, .int .i64 sv]) 4 (unhide HR) rfl rfl
    have ES : Rp.seated l ⟨ss, sq, ⟨se, sv⟩⟩ = Rp.pushed l ⟨ss, sq, ⟨se, sv⟩⟩ 4 := by unfold Rp.seated; rw [unhide HEQ]
    rw [hfl, ← pushed_len l (⟨ss, sq, ⟨se, sv⟩⟩ : Rp.Seat) 4] at hown
    refine ⟨_, _, rfl, by rw [ES]; exact rows2, by rw [ES]; exact hown, ?_, ?_⟩
    · exact gr_trans (gr_trans (gr_below (unhide HB1) _) (gr_below (unhide HB2) _)) hgr
    · rcases hat with q | ⟨b, q, hb⟩
      · exact .inl q
      · exact .inr ⟨b, q, by omega⟩
  · have hX' : X = (i : Int) := by rw [hX, Nat.zero_add]
    subst hX'
    have hil := (List.getElem?_eq_some_iff.1 hx).1
    have hxs : x.session = ss := by simpa using hp
    have EQ : l.filter (fun y => decide (y.session ≠ ss)) = l.take i ++ l.drop (i + 1) := by rw [← hxs]; exact filter_del hd hx
    have hnl : (l.take i ++ l.drop (i + 1)).length = l.length - 1 := by rw [List.length_append, List.length_take, List.length_drop]; omega
    have DEL := delete_Seat L l.length i _ css.flatten w2 (unhide HO2) (one_rows hr fun x c h => one_Seat h) hil (by omega) (i + 1) rfl
    rw [show ((i + 1 : Nat) : Int) = (i : Int) + 1 from by omega, flat_del css i hr.width, ← hnl] at DEL
    have HDEL := hide DEL
    have hw : IntKind.i64.wrap ((i : Int) + 1) = (i : Int) + 1 := by rw [IntKind.wrap_i64]; omega
    have hge : (0 : Int) ≤ (i : Int) := by omega
    have HR := hide (hr.del i)
    have HEQ := hide EQ
    have HNL := hide hnl
    have HN2 := hide N2
    clear DEL EQ hnl hr hX hfst hp hx hxs hd N2 hil
    go_wp2_with fail
    refine (unhide HDEL).mono ?_
    rintro e w3 ⟨v1, rfl, o3, g3, a3⟩
    have N3 := (unhide HN2).same (g3.block w.heap.size (by omega) (fun e => by have := (unhide LT w.heap.size e.symm).2; omega))
    obtain ⟨c0, c1, c2, c3, _, _, _, _⟩ := N3
    have hz3 : w2.heap.size ≤ w3.heap.size := g3.size
    have PU := push_Seat ss sq se sv L (l.take i ++ l.drop (i + 1)).length 4 v1 (css.take i ++ css.drop (i + 1)).flatten w3 o3 (one_rows (unhide HR) fun x c h => one_Seat h) (by rw [unhide HNL]; omega) (by omega)
    rw [show ((4 : Nat) : Int) = 4 from rfl] at PU
    have HPU := hide PU
    have HG3 := hide g3
    have HA3 := hide a3
    obtain ⟨v1a, v1n, v1c, hv1⟩ : ∃ a n c, v1 = .slice a n c := by
      rcases o3.2 with ⟨e, _⟩ | ⟨g, cap, cur, e, _⟩
      · exact ⟨none, 0, 0, e⟩
      · exact ⟨_, _, _, e⟩
    subst hv1
    clear PU o3 g3 a3 HDEL
    go_wp2_with fail
    refine (unhide HPU).mono ?_
    rintro e w4 ⟨v', rfl, hown, hgr, hat⟩
    have HW := hide (And.intro hown (And.intro hgr hat))
    clear hown hgr hat HPU
    go_wp2
    go_ret
    obtain ⟨hown, hgr, hat⟩ := unhide HW
    obtain ⟨rows2, hfl⟩ := push_rows (x := (⟨ss, sq, ⟨se, sv⟩⟩ : Rp.Seat)) (c := [.int .i64 ss, .int .i64 sq, .int .i64 se, .int .i64 sv]) 4 (unhide HR) rfl rfl
    have ES : Rp.seated l ⟨ss, sq, ⟨se, sv⟩⟩ = Rp.pushed (l.take i ++ l.drop (i + 1)) ⟨ss, sq, ⟨se, sv⟩⟩ 4 := by unfold Rp.seated; rw [unhide HEQ]
    rw [hfl, ← pushed_len (l.take i ++ l.drop (i + 1)) (⟨ss, sq, ⟨se, sv⟩⟩ : Rp.Seat) 4] at hown
    rw [unhide HA3] at hgr hat
    refine ⟨_, _, rfl, by rw [ES]; exact rows2, by rw [ES]; exact hown, ?_, ?_⟩
    · exact gr_trans (gr_trans (gr_trans (gr_below (unhide HB1) _) (gr_below (unhide HB2) _)) (unhide HG3)) hgr
    · rcases hat with q | ⟨b, q, hb⟩
      · exact .inl q
      · exact .inr ⟨b, q, by omega⟩
end Go.Proofs.YtnegjbkbfgkkjaaGreatDoor

/- Plain: names stand in order; what a search by a name finds, in the words of wip/repo. -/
namespace Go.Proofs.YtnegjbkbfgkkjaaGreatDoor
open Go.RowKit Go.MapKept

/-- one name ahead of another one -/
def ltN (a b : ByteArray) : Bool := decide (cmpN a b < 0)
theorem cmpL_self : ∀ (a : List UInt8), Lib.compareBytes a a = 0
  | [] => rfl
  | x :: a => by
    unfold Lib.compareBytes
    rw [if_neg (UInt8.lt_irrefl x), if_neg (UInt8.lt_irrefl x)]
    exact cmpL_self a
theorem u8_eq12 {x y : UInt8} (h1 : ¬ x < y) (h2 : ¬ y < x) : x = y := by
  have a1 := UInt8.le_iff_toNat_le.1 (UInt8.not_lt.1 h1)
  have a2 := UInt8.le_iff_toNat_le.1 (UInt8.not_lt.1 h2)
  exact UInt8.toNat_inj.1 (by omega)
theorem cmpL_zero : ∀ (a b : List UInt8), Lib.compareBytes a b = 0 → a = b
  | [], [], _ => rfl
  | [], _ :: _, h => by simp [Lib.compareBytes] at h
  | _ :: _, [], h => by simp [Lib.compareBytes] at h
  | x :: a, y :: b, h => by
    unfold Lib.compareBytes at h
    by_cases h1 : x < y
    · rw [if_pos h1] at h; exact absurd h (by decide)
    · rw [if_neg h1] at h
      by_cases h2 : y < x
      · rw [if_pos h2] at h; exact absurd h (by decide)
      · rw [if_neg h2] at h
        rw [u8_eq12 h1 h2, cmpL_zero a b h]
theorem cmpL_tri : ∀ (a b : List UInt8), Lib.compareBytes a b < 0 ∨ a = b ∨ Lib.compareBytes b a < 0
  | [], [] => .inr (.inl rfl)
  | [], _ :: _ => .inl (by simp [Lib.compareBytes])
  | _ :: _, [] => .inr (.inr (by simp [Lib.compareBytes]))
  | x :: a, y :: b => by
    by_cases h1 : x < y
    · exact .inl (by unfold Lib.compareBytes; rw [if_pos h1]; decide)
    · by_cases h2 : y < x
      · exact .inr (.inr (by unfold Lib.compareBytes; rw [if_pos h2]; decide))
      · have e := u8_eq12 h1 h2
        subst e
        rcases cmpL_tri a b with h | h | h
        · exact .inl (by unfold Lib.compareBytes; rw [if_neg h1, if_neg h1]; exact h)
        · exact .inr (.inl (by rw [h]))
        · exact .inr (.inr (by unfold Lib.compareBytes; rw [if_neg h1, if_neg h1]; exact h))
theorem u8_lt12 {x y : UInt8} : x < y ↔ x.toNat < y.toNat := UInt8.lt_iff_toNat_lt
theorem cmpL_trans : ∀ (a b c : List UInt8), Lib.compareBytes a b < 0 → Lib.compareBytes b c < 0 → Lib.compareBytes a c < 0
  | [], [], _, h, _ => by simp [Lib.compareBytes] at h
  | [], _ :: _, [], _, h => by simp [Lib.compareBytes] at h
  | [], _ :: _, _ :: _, _, _ => by simp [Lib.compareBytes]
  | _ :: _, [], _, h, _ => by simp [Lib.compareBytes] at h
  | _ :: _, _ :: _, [], _, h => by simp [Lib.compareBytes] at h
  | x :: a, y :: b, z :: c, h, k => by
    unfold Lib.compareBytes at h k ⊢
    by_cases h1 : x < y
    · by_cases k1 : y < z
      · rw [if_pos (show x < z from by rw [u8_lt12] at *; omega)]; decide
      · rw [if_neg k1] at k
        by_cases k2 : z < y
        · rw [if_pos k2] at k; exact absurd k (by decide)
        · have e := u8_eq12 k1 k2
          subst e
          rw [if_pos h1]; decide
    · rw [if_neg h1] at h
      by_cases h2 : y < x
      · rw [if_pos h2] at h; exact absurd h (by decide)
      · rw [if_neg h2] at h
        have e := u8_eq12 h1 h2
        subst e
        by_cases k1 : x < z
        · rw [if_pos k1]; decide
        · rw [if_neg k1] at k ⊢
          by_cases k2 : z < x
          · rw [if_pos k2] at k; exact absurd k (by decide)
          · rw [if_neg k2] at k ⊢
            exact cmpL_trans a b c h k
theorem ba_eq {a b : ByteArray} (h : a.data.toList = b.data.toList) : a = b := by
  cases a; cases b
  congr 1
  exact Array.toList_inj.1 h
theorem cmpN_self (a : ByteArray) : cmpN a a = 0 := cmpL_self _
theorem cmpN_zero {a b : ByteArray} (h : cmpN a b = 0) : a = b := ba_eq (cmpL_zero _ _ h)
theorem name_ord : Rp.NameOrd ltN where
  irr a := decide_eq_false (by rw [cmpN_self]; decide)
  trans a b c h k := decide_eq_true (cmpL_trans _ _ _ (of_decide_eq_true h) (of_decide_eq_true k))
  tri a b := by
    rcases cmpL_tri a.data.toList b.data.toList with h | h | h
    · exact .inl (decide_eq_true h)
    · exact .inr (.inl (ba_eq h))
    · exact .inr (.inr (decide_eq_true h))
/-- names rise -/
def Rise (l : List (Rp.Ent ByteArray TbT)) : Prop := l.Pairwise (fun a b => ltN a.name b.name = true)
theorem Rise.at {l : List (Rp.Ent ByteArray TbT)} (h : Rise l) {a b : Nat} {x y : Rp.Ent ByteArray TbT} (hab : a < b) (hx : l[a]? = some x) (hy : l[b]? = some y) : cmpN x.name y.name < 0 := by
  obtain ⟨ha, ea⟩ := List.getElem?_eq_some_iff.1 hx
  obtain ⟨hb, eb⟩ := List.getElem?_eq_some_iff.1 hy
  have := List.pairwise_iff_getElem.1 h a b ha hb hab
  rw [ea, eb] at this
  exact of_decide_eq_true this
theorem Rise.mono {l : List (Rp.Ent ByteArray TbT)} (h : Rise l) (n : ByteArray) (a b : Nat) (x y : Rp.Ent ByteArray TbT) (hab : a ≤ b) (hx : l[a]? = some x) (hy : l[b]? = some y) (hn : cmpN y.name n < 0) : cmpN x.name n < 0 := by
  rcases Nat.lt_or_ge a b with q | q
  · exact cmpL_trans _ _ _ (h.at q hx hy) hn
  · obtain rfl : a = b := by omega
    rw [hx] at hy
    cases hy
    exact hn
theorem found_yes {l : List (Rp.Ent ByteArray TbT)} {n : ByteArray} {i : Nat} (h : foundN l n i = true) : ∃ e, l[i]? = some e ∧ e.name = n := by
  unfold foundN at h
  cases q : l[i]? with
  | none => rw [q] at h; cases h
  | some e => rw [q] at h; exact ⟨e, rfl, cmpN_zero (by simpa using h)⟩
theorem AtN.tail {y : Rp.Ent ByteArray TbT} {l : List (Rp.Ent ByteArray TbT)} {n : ByteArray} {i : Nat} (h : AtN (y :: l) n (i + 1)) : AtN l n i :=
  ⟨by have := h.le; simp at this; omega, fun t e he ht => h.lo (t + 1) e (by simpa using he) (by omega), fun t e he ht => h.hi (t + 1) e (by simpa using he) (by omega)⟩
theorem AtN.head {y : Rp.Ent ByteArray TbT} {l : List (Rp.Ent ByteArray TbT)} {n : ByteArray} {i : Nat} (h : AtN (y :: l) n (i + 1)) : cmpN y.name n < 0 := h.lo 0 y rfl (by omega)
theorem lt_ne {a b : ByteArray} (h : cmpN a b < 0) : a ≠ b := fun e => by subst e; rw [cmpN_self] at h; exact absurd h (by decide)
theorem found_tail (y : Rp.Ent ByteArray TbT) (l : List (Rp.Ent ByteArray TbT)) (n : ByteArray) (i : Nat) : foundN (y :: l) n (i + 1) = foundN l n i := by
  unfold foundN
  rw [List.getElem?_cons_succ]
/-- what is found by its name -/
theorem find_found : ∀ {l : List (Rp.Ent ByteArray TbT)} {n : ByteArray} {i : Nat}, AtN l n i → foundN l n i = true → Rp.findE l n = l[i]?
  | [], n, i, _, hf => by simp [foundN] at hf
  | y :: l, n, 0, _, hf => by
    obtain ⟨e, h1, h2⟩ := found_yes hf
    have : y = e := by simpa using h1
    subst this
    unfold Rp.findE
    rw [List.find?_cons, h2]
    simp
  | y :: l, n, i + 1, h, hf => by
    rw [found_tail] at hf
    have := find_found h.tail hf
    unfold Rp.findE at this ⊢
    rw [List.find?_cons, this]
    simp [lt_ne h.head]
theorem find_lost {l : List (Rp.Ent ByteArray TbT)} (hr : Rise l) {n : ByteArray} {i : Nat} (h : AtN l n i) (hf : foundN l n i = false) : Rp.findE l n = none := by
  rw [Rp.findE_none]
  intro e he q
  obtain ⟨t, ht⟩ := List.getElem?_of_mem he
  rcases Nat.lt_or_ge t i with r | r
  · exact lt_ne (h.lo t e ht r) q
  · rcases Nat.lt_or_ge i t with r2 | r2
    · obtain ⟨y, hy⟩ : ∃ y, l[i]? = some y := ⟨_, List.getElem?_eq_getElem (Nat.lt_trans r2 (List.getElem?_eq_some_iff.1 ht).1)⟩
      have h1 := h.hi i y hy (Nat.le_refl _)
      have h2 := hr.at r2 hy ht
      rw [q] at h2
      omega
    · obtain rfl : t = i := by omega
      unfold foundN at hf
      rw [ht] at hf
      simp only [q, cmpN_self] at hf
      cases hf
theorem put_found : ∀ {l : List (Rp.Ent ByteArray TbT)} {x : Rp.Ent ByteArray TbT} {i : Nat}, AtN l x.name i → foundN l x.name i = true → Rp.putE ltN l x = l.set i x
  | [], x, i, _, hf => by simp [foundN] at hf
  | y :: l, x, 0, _, hf => by
    obtain ⟨e, h1, h2⟩ := found_yes hf
    have : y = e := by simpa using h1
    subst this
    rw [Rp.putE, if_pos h2, List.set_cons_zero]
  | y :: l, x, i + 1, h, hf => by
    rw [found_tail] at hf
    rw [Rp.putE, if_neg (lt_ne h.head), if_pos (show ltN y.name x.name = true from decide_eq_true h.head), put_found h.tail hf, List.set_cons_succ]
theorem put_lost : ∀ {l : List (Rp.Ent ByteArray TbT)} {x : Rp.Ent ByteArray TbT} {i : Nat}, AtN l x.name i → foundN l x.name i = false → Rp.putE ltN l x = l.take i ++ x :: l.drop i
  | [], x, i, h, _ => by simp [Rp.putE]
  | y :: l, x, 0, h, hf => by
    have h0 := h.hi 0 y rfl (Nat.le_refl _)
    have h1 : cmpN y.name x.name ≠ 0 := by simpa [foundN] using hf
    rw [Rp.putE, if_neg (fun e => h1 (by rw [e, cmpN_self])), if_neg (fun e => by have := of_decide_eq_true e; omega)]
    rfl
  | y :: l, x, i + 1, h, hf => by
    rw [found_tail] at hf
    rw [Rp.putE, if_neg (lt_ne h.head), if_pos (show ltN y.name x.name = true from decide_eq_true h.head), put_lost h.tail hf]
    rfl
theorem del_found {l : List (Rp.Ent ByteArray TbT)} (hr : Rise l) {n : ByteArray} {i : Nat} (hf : foundN l n i = true) : Rp.delE l n = l.take i ++ l.drop (i + 1) := by
  obtain ⟨x, hx, hn⟩ := found_yes hf
  have hi := (List.getElem?_eq_some_iff.1 hx).1
  have e : l = l.take i ++ x :: l.drop (i + 1) := by
    rw [← (List.getElem?_eq_some_iff.1 hx).2, ← List.drop_eq_getElem_cons hi, List.take_append_drop]
  have h1 : (l.take i).filter (fun y => decide (y.name ≠ n)) = l.take i := List.filter_eq_self.2 fun y hy => by
    obtain ⟨j, hj⟩ := List.getElem?_of_mem hy
    rw [List.getElem?_take] at hj
    split at hj
    · rename_i q
      have : y.name ≠ n := by rw [← hn]; exact lt_ne (hr.at q hj hx)
      simpa using this
    · cases hj
  have h2 : (l.drop (i + 1)).filter (fun y => decide (y.name ≠ n)) = l.drop (i + 1) := List.filter_eq_self.2 fun y hy => by
    obtain ⟨j, hj⟩ := List.getElem?_of_mem hy
    rw [List.getElem?_drop] at hj
    have : y.name ≠ n := by rw [← hn]; exact fun e => lt_ne (hr.at (show i < i + 1 + j by omega) hx hj) e.symm
    simpa using this
  unfold Rp.delE
  conv => lhs; rw [e]
  rw [List.filter_append, List.filter_cons, h1, h2]
  simp [hn]
/-- where a version is kept -/
theorem findV_ix (l : List (Rp.Ver TbT)) (n : Int) : (ixN (fun v : Rp.Ver TbT => v.number == n) l 0 = -1 ∧ Rp.findV l n = none) ∨ ∃ (i : Nat) (v : Rp.Ver TbT), ixN (fun v : Rp.Ver TbT => v.number == n) l 0 = (i : Int) ∧ l[i]? = some v ∧ v.number = n ∧ Rp.findV l n = some v := by
  rcases ixN_spec (fun v : Rp.Ver TbT => v.number == n) l 0 with ⟨h1, h2⟩ | ⟨i, x, h1, h2, h3, h4⟩
  · refine .inl ⟨h1, ?_⟩
    unfold Rp.findV
    rw [List.find?_eq_none]
    intro x hx
    have := h2 x hx
    simpa using this
  · refine .inr ⟨i, x, by rw [h1, Nat.zero_add], h2, by simpa using h3, ?_⟩
    have hi := (List.getElem?_eq_some_iff.1 h2).1
    have e : l = l.take i ++ x :: l.drop (i + 1) := by
      rw [← (List.getElem?_eq_some_iff.1 h2).2, ← List.drop_eq_getElem_cons hi, List.take_append_drop]
    unfold Rp.findV
    rw [e, List.find?_append, List.find?_eq_none.2 (fun y hy => by have := h4 y hy; simpa using this)]
    have : x.number = n := by simpa using h3
    simp [this]
end Go.Proofs.YtnegjbkbfgkkjaaGreatDoor
