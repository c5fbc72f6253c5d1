/- PointsRise, in plain words: points rise, and each is like itself. -/
import Derived.Test.YtdkgapapdjefdaaGreatDoorG39
import Derived.Test.YtdkgapapdjefdaaGreatDoorG40
namespace Go.Proofs.YtdkgapapdjefdaaGreatDoor
open Go.RowKit Go.Sort

theorem nb_eq {es : List (Int × Int)} {d : Int × Int} (hes : es.Pairwise (fun x y => vR x < vR y)) (i : Nat) (hi : i ≤ es.length) (h : ∀ j e, es[j]? = some e → (vR e < vR d ↔ j < i)) : nbN es d = i := by
  have hb : nbN es d ≤ es.length := List.countP_le_length
  have iff := nb_iff d hes
  have same : ∀ j, j < es.length → (j < nbN es d ↔ j < i) := fun j hj => by
    obtain ⟨e, he⟩ : ∃ e, es[j]? = some e := ⟨_, List.getElem?_eq_getElem hj⟩
    rw [← iff j e he, h j e he]
  rcases Nat.lt_trichotomy (nbN es d) i with q | q | q
  · have := (same (nbN es d) (by omega)).2 q
    omega
  · exact q
  · have := (same i (by omega)).1 q
    omega
theorem es_lt {es : List (Int × Int)} (hes : es.Pairwise (fun x y => vR x < vR y)) {i j : Nat} {a b : Int × Int} (ha : es[i]? = some a) (hb : es[j]? = some b) : vR a < vR b ↔ i < j := by
  obtain ⟨l1, e1⟩ := List.getElem?_eq_some_iff.1 ha
  obtain ⟨l2, e2⟩ := List.getElem?_eq_some_iff.1 hb
  have P := List.pairwise_iff_getElem.1 hes
  rcases Nat.lt_trichotomy i j with q | q | q
  · have := P i j l1 l2 q
    rw [e1, e2] at this
    exact ⟨fun _ => q, fun _ => this⟩
  · subst q
    rw [ha] at hb
    cases hb
    constructor <;> intro <;> omega
  · have := P j i l2 l1 q
    rw [e1, e2] at this
    constructor <;> intro <;> omega
/-- a point between edges -/
theorem pts_even {es l : List (Int × Int)} (hP : IsPts es l) (hes : es.Pairwise (fun x y => vR x < vR y)) {i : Nat} {q : Int × Int} (hq : l[2 * i]? = some q) : i ≤ es.length ∧ ∀ j e, es[j]? = some e → (vR e < vR q ↔ j < i) ∧ vR e ≠ vR q := by
  have hl := (List.getElem?_eq_some_iff.1 hq).1
  rw [hP.len] at hl
  refine ⟨by omega, fun j e he => ?_⟩
  have hjl := (List.getElem?_eq_some_iff.1 he).1
  have h40 : (0 : Int) < one40 := by decide
  by_cases h0 : i = 0
  · subst h0
    obtain ⟨a, ha⟩ : ∃ a, es[0]? = some a := ⟨_, List.getElem?_eq_getElem (by omega)⟩
    obtain ⟨q', hq', hv⟩ := hP.first a ha
    rw [Nat.mul_zero, hq'] at hq
    cases hq
    have := es_lt hes he ha
    omega
  · by_cases hn : i = es.length
    · subst hn
      obtain ⟨a, ha⟩ : ∃ a, es[es.length - 1]? = some a := ⟨_, List.getElem?_eq_getElem (by omega)⟩
      obtain ⟨q', hq', hv⟩ := hP.last a ha
      rw [hq'] at hq
      cases hq
      have := es_lt hes ha he
      omega
    · obtain ⟨a, ha⟩ : ∃ a, es[i - 1]? = some a := ⟨_, List.getElem?_eq_getElem (by omega)⟩
      obtain ⟨b, hb⟩ : ∃ b, es[i - 1 + 1]? = some b := ⟨_, List.getElem?_eq_getElem (by omega)⟩
      obtain ⟨q', hq', hv⟩ := hP.mid (i - 1) a b ha hb
      rw [show 2 * (i - 1) + 2 = 2 * i by omega, hq] at hq'
      cases hq'
      have h1 := es_lt hes ha hb
      have h2 := es_lt hes ha he
      have h3 := es_lt hes he hb
      have h4 := es_lt hes he ha
      have h5 := es_lt hes hb he
      omega
theorem pts_odd {es l : List (Int × Int)} (hP : IsPts es l) {i : Nat} {q : Int × Int} (hq : l[2 * i + 1]? = some q) : es[i]? = some q := by
  have hl := (List.getElem?_eq_some_iff.1 hq).1
  rw [hP.len] at hl
  rw [← hP.edge i (by omega)]
  exact hq
theorem pts_self {es l : List (Int × Int)} (hP : IsPts es l) (hes : es.Pairwise (fun x y => vR x < vR y)) {k : Nat} {q : Int × Int} (hq : l[k]? = some q) : likeN es q = k := by
  obtain ⟨i, hi⟩ : ∃ i, k = 2 * i ∨ k = 2 * i + 1 := ⟨k / 2, by omega⟩
  rcases hi with rfl | rfl
  · obtain ⟨hil, h⟩ := pts_even hP hes hq
    have hn := nb_eq hes i hil (fun j e he => (h j e he).1)
    rw [likeN, hn, if_neg]
    intro he
    exact (h i q he).2 rfl
  · have he := pts_odd hP hq
    have hil := (List.getElem?_eq_some_iff.1 he).1
    have hn := nb_eq hes i (by omega) (fun j e hj => es_lt hes hj he)
    rw [likeN, hn, if_pos he]
theorem pts_rise {es l : List (Int × Int)} (hP : IsPts es l) (hes : es.Pairwise (fun x y => vR x < vR y)) {k : Nat} {p q : Int × Int} (hp : l[k]? = some p) (hq : l[k + 1]? = some q) : vR p < vR q := by
  obtain ⟨i, hi⟩ : ∃ i, k = 2 * i ∨ k = 2 * i + 1 := ⟨k / 2, by omega⟩
  rcases hi with rfl | rfl
  · have he := pts_odd hP hq
    have := (pts_even hP hes hp).2 i q he
    omega
  · have he := pts_odd hP hp
    have := (pts_even hP hes (i := i + 1) hq).2 i p he
    omega
theorem ptsT_self {ps : List ByteArray} (hp : ps.Pairwise (fun x y => bl x y = true)) {n : Nat} {s : ByteArray} (hs : ps[n]? = some s) : nbT ps s = n + 1 := by
  have hb : nbT ps s ≤ ps.length := List.countP_le_length
  have hl := (List.getElem?_eq_some_iff.1 hs).1
  have iff := nbT_iff s hp
  have e2 := (List.getElem?_eq_some_iff.1 hs).2
  have P := List.pairwise_iff_getElem.1 hp
  have same : ∀ j, j < ps.length → (j < nbT ps s ↔ j < n + 1) := fun j hj => by
    rw [← iff j ps[j] (List.getElem?_eq_getElem hj)]
    rcases Nat.lt_trichotomy j n with q | q | q
    · have h := P j n hj hl q
      rw [e2] at h
      have : bl s ps[j] = false := by
        rcases bl_tri s ps[j] with ⟨_, h2, _⟩ | ⟨h2, _⟩ | ⟨h2, _⟩
        · rw [h] at h2; cases h2
        · exact h2
        · exact h2
      exact ⟨fun _ => by omega, fun _ => this⟩
    · subst q
      rw [e2]
      exact ⟨fun _ => by omega, fun _ => bl_irr s⟩
    · have h := P n j hl hj q
      rw [e2] at h
      exact ⟨fun k => (by rw [h] at k; cases k), fun k => (by omega)⟩
  rcases Nat.lt_trichotomy (nbT ps s) (n + 1) with q | q | q
  · have := (same n hl).2 (by omega)
    omega
  · exact q
  · have := (same (n + 1) (by omega)).1 q
    omega
/-- a point is like itself -/
theorem likeI_self {kind : Int} {ts : List TS} {er : Int} {ps : List Tree} (h : IsPoints kind ts er ps) (h0 : er = 0) {n : Nat} {q : Tree} (hq : ps[n]? = some q) : likeI kind ts q = (n : Int) ∧ q.kd = kind := by
  obtain ⟨hask, hko, _⟩ := isPoints_ok h h0
  rcases (hko : kind = 2 ∨ kind = 3 ∨ kind = 4) with rfl | rfl | rfl
  · have e := isPoints_bool h rfl hask
    subst e
    match n, hq with
    | 0, hq => simp at hq; subst hq; exact ⟨rfl, rfl⟩
    | 1, hq => simp at hq; subst hq; exact ⟨rfl, rfl⟩
    | n + 2, hq => simp at hq
  · obtain ⟨l, hP, rfl⟩ := isPoints_num h rfl hask
    rw [List.getElem?_map] at hq
    obtain ⟨p, hp, rfl⟩ := Option.map_eq_some_iff.1 hq
    have := pts_self hP (numE_rise ts (fun p hq => ((numE_few hask).1 p hq).ok)) hp
    refine ⟨?_, rfl⟩
    unfold likeI
    rw [if_pos rfl]
    show ((likeN (numE ts) (p.1, p.2) : Nat) : Int) = (n : Int)
    rw [this]
  · obtain ⟨_, rfl⟩ := isPoints_txt h rfl hask h0
    rw [List.getElem?_map] at hq
    obtain ⟨p, hp, rfl⟩ := Option.map_eq_some_iff.1 hq
    have := ptsT_self (ptsT_rise (txtE_rise ts)) hp
    refine ⟨?_, rfl⟩
    unfold likeI
    rw [if_neg (by decide), if_pos rfl]
    show ((nbT (ptsT (txtE ts)) p : Nat) : Int) - 1 = (n : Int)
    rw [this]
    omega
end Go.Proofs.YtdkgapapdjefdaaGreatDoor

/- PointsRise, in plain words: each point is right, and less than the next one. -/
namespace Go.Proofs.YtdkgapapdjefdaaGreatDoor
open Go.RowKit Go.Sort

theorem points_leaf {kind : Int} {ts : List TS} {er : Int} {ps : List Tree} (h : IsPoints kind ts er ps) (h0 : er = 0) {n : Nat} {q : Tree} (hq : ps[n]? = some q) : Leaf q := by
  obtain ⟨hask, hko, _⟩ := isPoints_ok h h0
  obtain ⟨hs, hk⟩ := likeI_self h h0 hq
  by_cases hw : (wrongF q 0 1).1 = 0
  · obtain ⟨m, q', h1, h2, h3, _⟩ := stand_plain h h0 hw hk
    have : m = n := by omega
    subst this
    rw [hq] at h2
    cases h2
    exact h3
  · exfalso
    apply hw
    rcases (hko : kind = 2 ∨ kind = 3 ∨ kind = 4) with rfl | rfl | rfl
    · have e := isPoints_bool h rfl hask
      subst e
      match n, hq with
      | 0, hq => simp at hq; subst hq; rw [boolT, wrongF]; decide
      | 1, hq => simp at hq; subst hq; rw [boolT, wrongF]; decide
      | n + 2, hq => simp at hq
    · obtain ⟨l, hP, rfl⟩ := isPoints_num h rfl hask
      rw [List.getElem?_map] at hq
      obtain ⟨p, hp, rfl⟩ := Option.map_eq_some_iff.1 hq
      have hqo := hP.ok p (List.mem_of_getElem? hp)
      rw [numT, wrongF]
      simpa using hqo
    · obtain ⟨hr, rfl⟩ := isPoints_txt h rfl hask h0
      rw [List.getElem?_map] at hq
      obtain ⟨p, hp, rfl⟩ := Option.map_eq_some_iff.1 hq
      have hqo := ptsT_right (txtE_few hask).1 hr p (List.mem_of_getElem? hp)
      rw [txtT, wrongF]
      simpa using hqo
theorem points_less {kind : Int} {ts : List TS} {er : Int} {ps : List Tree} (h : IsPoints kind ts er ps) (h0 : er = 0) (hk2 : kind ≠ 2) {n : Nat} {p q : Tree} (hp : ps[n]? = some p) (hq : ps[n + 1]? = some q) : lessH p q = 2 := by
  obtain ⟨hask, hko, _⟩ := isPoints_ok h h0
  rcases (hko : kind = 2 ∨ kind = 3 ∨ kind = 4) with rfl | rfl | rfl
  · exact absurd rfl hk2
  · obtain ⟨l, hP, rfl⟩ := isPoints_num h rfl hask
    rw [List.getElem?_map] at hp hq
    obtain ⟨a, ha, rfl⟩ := Option.map_eq_some_iff.1 hp
    obtain ⟨b, hb, rfl⟩ := Option.map_eq_some_iff.1 hq
    have : vR a < vR b := pts_rise hP (numE_rise ts (fun p hq => ((numE_few hask).1 p hq).ok)) ha hb
    have hv : Dm.V a.1 a.2 < Dm.V b.1 b.2 := this
    rw [numT, numT, lessH_num, if_pos]
    have a1 := Dm.sgn_cases (Dm.V a.1 a.2 - Dm.V b.1 b.2)
    omega
  · obtain ⟨_, rfl⟩ := isPoints_txt h rfl hask h0
    rw [List.getElem?_map] at hp hq
    obtain ⟨a, ha, rfl⟩ := Option.map_eq_some_iff.1 hp
    obtain ⟨b, hb, rfl⟩ := Option.map_eq_some_iff.1 hq
    obtain ⟨l1, e1⟩ := List.getElem?_eq_some_iff.1 ha
    obtain ⟨l2, e2⟩ := List.getElem?_eq_some_iff.1 hb
    have hlt := List.pairwise_iff_getElem.1 (ptsT_rise (txtE_rise ts)) n (n + 1) l1 l2 (by omega)
    rw [e1, e2] at hlt
    unfold bl at hlt
    rw [txtT, txtT, lessH_txt, if_pos hlt]
end Go.Proofs.YtdkgapapdjefdaaGreatDoor

/- PointsRise: the law's walk, given ref2.Less. (Written by gen_ot.py.) -/
namespace Go.Proofs.YtdkgapapdjefdaaGreatDoor
open Go.RowKit Go.Sort

theorem callR11 (zs : Array Value) (w : World) : Sem.run Tryz.prog (callFunc 11 zs) w = .ok (.enter 11 zs) w := by simp [go_sem]
theorem callR12 (zs : Array Value) (w : World) : Sem.run Tryz.prog (callFunc 12 zs) w = .ok (.enter 12 zs) w := by simp [go_sem]
section
variable {a : Act} {w : World} {d : Option Nat} {t : TypeId} {p : String} {af : Array Edge} {g : Option (Nat × Bool)}
theorem run_gtU {x : Operand} {n : Nat} {r : Bool} (h : a.eval x = .int .i64 (n : Int)) (hr : decide ((n : Int) > 0) = r) : (execOp a.eval ⟨d, .binOp .gtr 3 x (.const (.int .i64 0)) 3, t, p, af, g⟩).run Tryz.prog w = .ok (.value (.bool r)) w := by
  have e1 : a.eval (.const (.int .i64 0)) = .int .i64 0 := rfl
  generalize a.eval = E at h e1 ⊢
  subst hr
  simp [go_sem, h, e1]
theorem run_neU {x : Operand} {u : Int} {r : Bool} (h : a.eval x = .int .i64 u) (hr : (u != 2) = r) : (execOp a.eval ⟨d, .binOp .neq 3 x (.const (.int .i64 2)) 3, t, p, af, g⟩).run Tryz.prog w = .ok (.value (.bool r)) w := by
  have e1 : a.eval (.const (.int .i64 2)) = .int .i64 2 := rfl
  generalize a.eval = E at h e1 ⊢
  subst hr
  simp [go_sem, h, e1]
theorem run_subU {x : Operand} {n m : Nat} (h : a.eval x = .int .i64 (n : Int)) (hn : n = m + 1) (h63 : m < 9223372036854775807) : (execOp a.eval ⟨d, .binOp .sub 3 x (.const (.int .i64 1)) 3, t, p, af, g⟩).run Tryz.prog w = .ok (.value (.int .i64 (m : Int))) w := by
  have e1 : a.eval (.const (.int .i64 1)) = .int .i64 1 := rfl
  have e2 : (n : Int) - 1 = (m : Int) := by omega
  have e3 : IntKind.i64.wrap (m : Int) = (m : Int) := by rw [IntKind.wrap_i64]; omega
  generalize a.eval = E at h e1 ⊢
  simp [go_sem, h, e1, e2, e3]
end
theorem isPoints_bad {kind : Int} {ts : List TS} {er : Int} {ps : List Tree} (h : IsPoints kind ts er ps) (h0 : er ≠ 0) : ps = [] := by
  cases h with
  | wrong _ => rfl
  | much _ _ _ => rfl
  | truths _ _ => exact absurd rfl h0
  | numbers _ _ _ _ => exact absurd rfl h0
  | texts _ _ _ => exact absurd rfl h0
theorem like_self {kind : Int} {ts : List TS} {er : Int} {ps : List Tree} (h : IsPoints kind ts er ps) (h0 : er = 0) {n : Nat} {q : Tree} (hq : ps[n]? = some q) : likeF kind ts q = ((n : Int), 0) := by
  obtain ⟨h1, h2⟩ := likeI_self h h0 hq
  have h3 := isPoints_err h
  rw [h0] at h3
  unfold likeF
  rw [if_pos h3.symm, if_pos (points_leaf h h0 hq).ok, if_pos h2, h1]

set_option maxRecDepth 100000 in
set_option maxHeartbeats 8000000 in
theorem rise_walk0 (kind : Int) (ts : List TS) (l : Value) (B : Nat) (w : World) (hB : B ≤ w.heap.size) (hl : SlT B w ts l) (hT : TabsIn B w)
    (DL : ∀ (A C : Tree) (v u : Array Value) (b b' : Nat) (wx : World), Mem b wx A v → Mem b' wx C u → (wrongF A 0 1).1 = 0 → (wrongF C 0 1).1 = 0 → Calls Tryz.prog 12 #[.agg v, .agg u] wx fun e w' => e = .returned (.int .i64 ((lessH A C : Nat) : Int)) ∧ Below wx.heap.size wx w') :
    Calls Tryz.prog 4 #[.int .i64 kind, l] w fun e w' => e = .returned (.bool true) ∧ Below w.heap.size w w' := by
  have AL := hide (fun wx (hb : Below w.heap.size w wx) => alive9_any B wx (Nat.le_trans hB hb.size) (hT.below (hb.mono hB)))
  have PT := hide (fun wx (hb : Below w.heap.size w wx) => points_any kind ts l B wx (Nat.le_trans hB hb.size) (hl.below (hb.mono hB)) (hT.below (hb.mono hB)))
  have LKc := hide (fun (v : Tree) (qv : Array Value) wx (hb : Below w.heap.size w wx) (hM : Mem wx.heap.size wx v qv) => like_any kind ts l v qv wx.heap.size wx (Nat.le_refl _) ((hl.below (hb.mono hB)).mono (Nat.le_trans hB hb.size)) hM ((hT.below (hb.mono hB)).mono (Nat.le_trans hB hb.size)))
  have LWc := hide (fun (v : Tree) (qv : Array Value) wx (hb : Below w.heap.size w wx) (hM : Mem wx.heap.size wx v qv) => logicWrong_any v qv wx.heap.size wx (Nat.le_refl _) hM ((hT.below (hb.mono hB)).mono (Nat.le_trans hB hb.size)))
  have DLc := hide DL
  obtain ⟨_, ad, cap, rfl, _⟩ := hl
  clear hT DL
  go_enter Tryz.func4, Tryz.ntmps4
  go_wp2_with fail
  refine (unhide AL _ (Below.refl _ _)).mono ?_
  rintro e w1 ⟨rfl, hb1⟩
  have HB1 := hide hb1
  clear hb1 AL
  go_wp2_with fail
  refine (unhide PT _ (unhide HB1)).mono ?_
  rintro e w2 ⟨u, er, ps, rfl, hp, ho, hb2⟩
  have HB2 := hide (bv (unhide HB1) hb2)
  clear hb2 HB1 PT
  by_cases h0 : er = 0
  · have HP := hide hp
    have E0 := hide h0
    rw [h0]
    obtain ⟨_, _, T0, hT0, _⟩ := isPoints_ok hp h0
    have hpos : 0 < ps.length := (List.getElem?_eq_some_iff.1 hT0).1
    have hlen : ps.length ≤ 9223372036854775807 := by
      rcases ho.2 with ⟨_, q⟩ | ⟨_, _, _, _, _, _, q1, q2, _⟩
      · omega
      · unfold maxLen at q2; omega
    obtain ⟨g, pc, rfl, _, RL0⟩ := rowL_of ho (by rintro rfl; simp at hT0)
    have RLh := hide RL0
    have hpos' : (0 : Int) < (ps.length : Int) := by omega
    clear hp ho h0 hT0 RL0
    go_wp2
    go_loopw [26] (fun i wr => ∃ n : Nat, n ≤ ps.length ∧ i = .int .i64 (n : Int) ∧ Hid (Below w2.heap.size w2 wr)) (fun i _ => ps.length - (intOf i).toNat)
    case atStart => exact ⟨0, Nat.zero_le _, rfl, hide (Below.refl _ _)⟩
    case round =>
      obtain ⟨n, hnl, rfl, HB⟩ := hrel
      by_cases hlt : n < ps.length
      · have hi1 : (n : Int) < (ps.length : Int) := by omega
        obtain ⟨q, hq⟩ : ∃ q, ps[n]? = some q := ⟨_, List.getElem?_eq_getElem hlt⟩
        have RLr := (unhide RLh).keep (unhide HB)
        have lfq := points_leaf (unhide HP) (unhide E0) hq
        obtain ⟨k9, y9, c9, x9, t9, hq9, hmq, e0, e1, e2, e3, e4, e5⟩ := leaf_mem RLr hq lfq
        have lg0 := RLr.low
        have HBw := hide (bv (unhide HB2) (unhide HB))
        have bW := vbelow_new wr (.cells #[.int .i64 k9, .bool y9, .int .i64 c9, .int .i64 x9, .string t9, .slice none 0 0] 27)
        have mem : ∀ wx, Below (wr.alloc (.cells #[.int .i64 k9, .bool y9, .int .i64 c9, .int .i64 x9, .string t9, .slice none 0 0] 27)).heap.size (wr.alloc (.cells #[.int .i64 k9, .bool y9, .int .i64 c9, .int .i64 x9, .string t9, .slice none 0 0] 27)) wx → Below w.heap.size w wx ∧ Mem wx.heap.size wx q #[.int .i64 k9, .bool y9, .int .i64 c9, .int .i64 x9, .string t9, .slice none 0 0] := fun wx hx => ⟨bv (bv (unhide HBw) bW) hx, Mem.mono (bv bW hx).size (Mem.below (bv bW hx) hmq)⟩
        have LK1 : Hid (∀ wx, Below (wr.alloc (.cells #[.int .i64 k9, .bool y9, .int .i64 c9, .int .i64 x9, .string t9, .slice none 0 0] 27)).heap.size (wr.alloc (.cells #[.int .i64 k9, .bool y9, .int .i64 c9, .int .i64 x9, .string t9, .slice none 0 0] 27)) wx → Calls Tryz.prog 8 #[.int .i64 kind, .slice ad ts.length cap, .agg #[.int .i64 k9, .bool y9, .int .i64 c9, .int .i64 x9, .string t9, .slice none 0 0]] wx fun e w' => e = .returned (.tuple #[.int .i64 (n : Int), .int .i64 0]) ∧ Below wx.heap.size wx w') := hide fun wx hx => by
          have := unhide LKc q _ wx (mem wx hx).1 (mem wx hx).2
          rw [like_self (unhide HP) (unhide E0) hq] at this
          exact this
        have LW : Hid (∀ wx, Below (wr.alloc (.cells #[.int .i64 k9, .bool y9, .int .i64 c9, .int .i64 x9, .string t9, .slice none 0 0] 27)).heap.size (wr.alloc (.cells #[.int .i64 k9, .bool y9, .int .i64 c9, .int .i64 x9, .string t9, .slice none 0 0] 27)) wx → Calls Tryz.prog 11 #[.agg #[.int .i64 k9, .bool y9, .int .i64 c9, .int .i64 x9, .string t9, .slice none 0 0]] wx fun e w' => e = .returned (.int .i64 0) ∧ Below wx.heap.size wx w') := hide fun wx hx => by
          have := unhide LWc q _ wx (mem wx hx).1 (mem wx hx).2
          rw [lfq.ok] at this
          exact this
        have YB := hide (Box.new (w := wr) (t := 27) (a0 := .int .i64 k9) (a1 := .bool y9) (a2 := .int .i64 c9) (a3 := .int .i64 x9) (a4 := .string t9) (a5 := .slice none 0 0))
        by_cases hn0 : n = 0
        · have HGT : Hid (decide ((n : Int) > 0) = false) := hide (by simp [hn0])
          clear hn0 mem bW hmq hq9 lfq RLr hq
          go_upto_region 9 with fail
          refine frame_name ?_
          intro f0 hf0
          have s0 : G f0 0 = .int .i64 kind := by rw [hf0]; rfl
          have s5 : G f0 5 = .slice (some ⟨g, 0, none⟩) ps.length pc := by rw [hf0]; rfl
          have s7 : G f0 7 = .int .i64 (n : Int) := by rw [hf0]; rfl
          have s8 : G f0 8 = .pointer (some ⟨wr.heap.size, 0, none⟩) := by rw [hf0]; rfl
          have hsz : f0.tmps.size = 70 := by rw [hf0]; rfl
          have hdf : f0.defers = [] := by rw [hf0]
          refine region_any (I := RL (wr.alloc (.cells #[.int .i64 k9, .bool y9, .int .i64 c9, .int .i64 x9, .string t9, .slice none 0 0] 27)) f0 70 [31, 32, 33, 34, 35, 36, 37, 38, 39, 40, 41, 42, 43, 44, 45, 46, 47, 48, 49, 50, 51] [.lit (.agg #[.int .i64 k9, .bool y9, .int .i64 c9, .int .i64 x9, .string t9, .slice none 0 0]), .lit (.int .i64 0), .lit (.bool false), .lit (.bool false), .lit (.int .i64 (n : Int)), .lit (.bool false), .lit (.bool false), .any, .any, .lit (.bool false), .lit (.bool false), .any, .any, .any, .any, .any, .any, .any, .any, .lit (.bool false), .lit (.bool false)]) (by kernel_rfl) ?wait ?step ?done ?start
          case wait => exact ⟨by simp <;> rfl, by simp <;> rfl, by simp <;> rfl, by simp <;> rfl, by simp <;> rfl, by simp <;> rfl, by simp <;> rfl, by simp <;> rfl, by simp <;> rfl, by simp <;> rfl, by simp <;> rfl, by simp <;> rfl, by simp <;> rfl, by simp <;> rfl, by simp <;> rfl, by simp <;> rfl, by simp <;> rfl, by simp <;> rfl, by simp <;> rfl, by simp <;> rfl, by simp <;> rfl, trivial⟩
          case start => exact RI.start hsz hdf ((Below.refl _ _).drew)
          case step =>
            refine ⟨?_, ?_, ?_, ?_, ?_, ?_, ?_, ?_, ?_, ?_, ?_, ?_, ?_, ?_, ?_, ?_, ?_, ?_, ?_, ?_, ?_, trivial⟩
            · rintro L fa wx h hcl hL hw2
              exact rl_val h (by decide) rfl rfl rfl (by decide) rfl (run_ldX (eval_G ((h.keep (s := 8) (by decide)).trans s8)) ((unhide YB).keep h.old (unhide YB).low)) rfl
            · rintro L fa wx h hcl hL hw2
              exact rl_call (R := fun v _ => v = .int .i64 0) h (by decide) rfl rfl rfl (by decide) rfl (run_call1 (eval_G (show G fa 31 = .agg #[.int .i64 k9, .bool y9, .int .i64 c9, .int .i64 x9, .string t9, .slice none 0 0] from (h.got 0 31 (hw2 ⟨0, .data⟩ (by simp) rfl) rfl))) callR11) (xr (unhide LW _ h.old)) (fun _ _ q => q)
            · rintro L fa wx h hcl hL hw2
              exact rl_val h (by decide) rfl rfl rfl (by decide) rfl (run_neI (eval_G (show G fa 32 = .int .i64 0 from (h.got 1 32 (hw2 ⟨1, .data⟩ (by simp) rfl) rfl))) (show _ = Value.int .i64 0 from rfl) rfl) rfl
            · rintro L fa wx h hcl hL hw2
              exact rl_val h (by decide) rfl rfl rfl (by decide) rfl (run_mv (eval_G (show G fa 33 = .bool false from (h.got 2 33 (hw2 ⟨2, .data⟩ (by simp) rfl) rfl)))) rfl
            · rintro L fa wx h hcl hL hw2
              exact rl_val h (by decide) rfl rfl rfl (by decide) ((wanted_is (j := 3) (dj := 34) (b := false) (c := false) rfl rfl (by rw [h.size]; decide) (show G fa 34 = .bool false from (h.got 3 34 (hw2 ⟨3, .guard⟩ (by simp) rfl) rfl))).trans rfl) (run_mv (eval_G ((h.keep (s := 7) (by decide)).trans s7))) rfl
            · rintro L fa wx h hcl hL hw2
              exact rl_val h (by decide) rfl rfl rfl (by decide) ((wanted_is (j := 3) (dj := 34) (b := false) (c := false) rfl rfl (by rw [h.size]; decide) (show G fa 34 = .bool false from (h.got 3 34 (hw2 ⟨3, .guard⟩ (by simp) rfl) rfl))).trans rfl) (run_gtU (eval_G (show G fa 35 = .int .i64 (n : Int) from (h.got 4 35 (hw2 ⟨4, .data⟩ (by simp) rfl) rfl))) (unhide HGT)) rfl
            · rintro L fa wx h hcl hL hw2
              exact rl_val h (by decide) rfl rfl rfl (by decide) ((wanted_is (j := 3) (dj := 34) (b := false) (c := false) rfl rfl (by rw [h.size]; decide) (show G fa 34 = .bool false from (h.got 3 34 (hw2 ⟨3, .guard⟩ (by simp) rfl) rfl))).trans rfl) (run_mv (eval_G (show G fa 36 = .bool false from (h.got 5 36 (hw2 ⟨5, .data⟩ (by simp) rfl) rfl)))) rfl
            · rintro L fa wx h hcl hL hw2
              exact rl_skip h (by decide) rfl rfl rfl (by decide) ((wanted_is (j := 6) (dj := 37) (b := false) (c := true) rfl rfl (by rw [h.size]; decide) (show G fa 37 = .bool false from (h.got 6 37 (hw2 ⟨6, .guard⟩ (by simp) rfl) rfl))).trans rfl) trivial
            · rintro L fa wx h hcl hL hw2
              exact rl_skip h (by decide) rfl rfl rfl (by decide) ((wanted_is (j := 6) (dj := 37) (b := false) (c := true) rfl rfl (by rw [h.size]; decide) (show G fa 37 = .bool false from (h.got 6 37 (hw2 ⟨6, .guard⟩ (by simp) rfl) rfl))).trans rfl) trivial
            · rintro L fa wx h hcl hL hw2
              exact rl_val h (by decide) rfl rfl rfl (by decide) ((wanted_is (j := 3) (dj := 34) (b := false) (c := false) rfl rfl (by rw [h.size]; decide) (show G fa 34 = .bool false from (h.got 3 34 (hw2 ⟨3, .guard⟩ (by simp) rfl) rfl))).trans rfl) (run_pickF (eval_G (show G fa 37 = .bool false from (h.got 6 37 (hw2 ⟨6, .data⟩ (by simp) rfl) rfl))) rfl) rfl
            · rintro L fa wx h hcl hL hw2
              exact rl_val h (by decide) rfl rfl rfl (by decide) ((wanted_is (j := 3) (dj := 34) (b := false) (c := false) rfl rfl (by rw [h.size]; decide) (show G fa 34 = .bool false from (h.got 3 34 (hw2 ⟨3, .guard⟩ (by simp) rfl) rfl))).trans rfl) (run_mv (eval_G (show G fa 40 = .bool false from (h.got 9 40 (hw2 ⟨9, .data⟩ (by simp) rfl) rfl)))) rfl
            · rintro L fa wx h hcl hL hw2
              exact rl_skip h (by decide) rfl rfl rfl (by decide) ((wanted_is (j := 10) (dj := 41) (b := false) (c := true) rfl rfl (by rw [h.size]; decide) (show G fa 41 = .bool false from (h.got 10 41 (hw2 ⟨10, .guard⟩ (by simp) rfl) rfl))).trans rfl) trivial
            · rintro L fa wx h hcl hL hw2
              exact rl_skip h (by decide) rfl rfl rfl (by decide) ((wanted_is (j := 10) (dj := 41) (b := false) (c := true) rfl rfl (by rw [h.size]; decide) (show G fa 41 = .bool false from (h.got 10 41 (hw2 ⟨10, .guard⟩ (by simp) rfl) rfl))).trans rfl) trivial
            · rintro L fa wx h hcl hL hw2
              exact rl_skip h (by decide) rfl rfl rfl (by decide) ((wanted_is (j := 10) (dj := 41) (b := false) (c := true) rfl rfl (by rw [h.size]; decide) (show G fa 41 = .bool false from (h.got 10 41 (hw2 ⟨10, .guard⟩ (by simp) rfl) rfl))).trans rfl) trivial
            · rintro L fa wx h hcl hL hw2
              exact rl_skip h (by decide) rfl rfl rfl (by decide) ((wanted_is (j := 10) (dj := 41) (b := false) (c := true) rfl rfl (by rw [h.size]; decide) (show G fa 41 = .bool false from (h.got 10 41 (hw2 ⟨10, .guard⟩ (by simp) rfl) rfl))).trans rfl) trivial
            · rintro L fa wx h hcl hL hw2
              exact rl_skip h (by decide) rfl rfl rfl (by decide) ((wanted_is (j := 10) (dj := 41) (b := false) (c := true) rfl rfl (by rw [h.size]; decide) (show G fa 41 = .bool false from (h.got 10 41 (hw2 ⟨10, .guard⟩ (by simp) rfl) rfl))).trans rfl) trivial
            · rintro L fa wx h hcl hL hw2
              exact rl_skip h (by decide) rfl rfl rfl (by decide) ((wanted_is (j := 10) (dj := 41) (b := false) (c := true) rfl rfl (by rw [h.size]; decide) (show G fa 41 = .bool false from (h.got 10 41 (hw2 ⟨10, .guard⟩ (by simp) rfl) rfl))).trans rfl) trivial
            · rintro L fa wx h hcl hL hw2
              exact rl_skip h (by decide) rfl rfl rfl (by decide) ((wanted_is (j := 10) (dj := 41) (b := false) (c := true) rfl rfl (by rw [h.size]; decide) (show G fa 41 = .bool false from (h.got 10 41 (hw2 ⟨10, .guard⟩ (by simp) rfl) rfl))).trans rfl) trivial
            · rintro L fa wx h hcl hL hw2
              exact rl_skip h (by decide) rfl rfl rfl (by decide) ((wanted_is (j := 10) (dj := 41) (b := false) (c := true) rfl rfl (by rw [h.size]; decide) (show G fa 41 = .bool false from (h.got 10 41 (hw2 ⟨10, .guard⟩ (by simp) rfl) rfl))).trans rfl) trivial
            · rintro L fa wx h hcl hL hw2
              exact rl_val h (by decide) rfl rfl rfl (by decide) ((wanted_is (j := 3) (dj := 34) (b := false) (c := false) rfl rfl (by rw [h.size]; decide) (show G fa 34 = .bool false from (h.got 3 34 (hw2 ⟨3, .guard⟩ (by simp) rfl) rfl))).trans rfl) (run_pickF (eval_G (show G fa 41 = .bool false from (h.got 10 41 (hw2 ⟨10, .data⟩ (by simp) rfl) rfl))) rfl) rfl
            · rintro L fa wx h hcl hL hw2
              exact rl_val h (by decide) rfl rfl rfl (by decide) rfl (run_pickF (eval_G (show G fa 34 = .bool false from (h.got 3 34 (hw2 ⟨3, .data⟩ (by simp) rfl) rfl))) (eval_G (show G fa 50 = .bool false from (h.got 19 50 (hw2 ⟨19, .data⟩ (by simp) rfl) rfl)))) rfl
          case done =>
            rintro L f1 wd h' hall
            have e51 : G f1 51 = .bool false := h'.got 20 51 (hall 20 (by simp)) rfl
            have HBc := hide h'.old
            have e := puts_is [31, 32, 33, 34, 35, 36, 37, 38, 39, 40, 41, 42, 43, 44, 45, 46, 47, 48, 49, 50, 51] f0 (h'.size.trans hsz.symm) (h'.defs.trans hdf.symm) (by rw [hsz]; decide) (fun i hi => h'.keep hi)
            rw [hf0] at e
            simp only [List.foldl_cons, List.foldl_nil] at e
            rw [e51] at e
            generalize G f1 31 = q31 at e
            generalize G f1 32 = q32 at e
            generalize G f1 33 = q33 at e
            generalize G f1 34 = q34 at e
            generalize G f1 35 = q35 at e
            generalize G f1 36 = q36 at e
            generalize G f1 37 = q37 at e
            generalize G f1 38 = q38 at e
            generalize G f1 39 = q39 at e
            generalize G f1 40 = q40 at e
            generalize G f1 41 = q41 at e
            generalize G f1 42 = q42 at e
            generalize G f1 43 = q43 at e
            generalize G f1 44 = q44 at e
            generalize G f1 45 = q45 at e
            generalize G f1 46 = q46 at e
            generalize G f1 47 = q47 at e
            generalize G f1 48 = q48 at e
            generalize G f1 49 = q49 at e
            generalize G f1 50 = q50 at e
            replace e : f1 = { tmps := #[.int .i64 kind, .slice ad ts.length cap, undef, undef, u4, .slice (some ⟨g, 0, none⟩) ps.length pc, .int .i64 0, .int .i64 (n : Int), .pointer (some ⟨wr.heap.size, 0, none⟩), u9, u10, .bool true, .bool false, .tuple #[.slice (some ⟨g, 0, none⟩) ps.length pc, .int .i64 0], .int .i64 kind, .slice ad ts.length cap, .tuple #[.slice (some ⟨g, 0, none⟩) ps.length pc, .int .i64 0], .slice (some ⟨g, 0, none⟩) ps.length pc, .int .i64 0, .int .i64 0, .bool false, undef, undef, undef, .slice (some ⟨g, 0, none⟩) ps.length pc, .int .i64 (ps.length : Int), .int .i64 (n : Int), .bool true, .int .i64 (n : Int), .pointer (some ⟨g, n * 6, none⟩), .agg #[.int .i64 k9, .bool y9, .int .i64 c9, .int .i64 x9, .string t9, .slice none 0 0], q31, q32, q33, q34, q35, q36, q37, q38, q39, q40, q41, q42, q43, q44, q45, q46, q47, q48, q49, q50, .bool false, u52, u53, u54, u55, u56, u57, u58, u59, u60, u61, u62, u63, u64, u65, u66, undef, undef, undef], defers := [] } := e.trans (by kernel_rfl)
            clear h' hall hsz hdf s0 s5 s7 s8 hf0 f0 e51 LW HGT
            subst e
            have XB := (unhide YB).keep (unhide HBc) (unhide YB).low
            obtain ⟨x0, x1, x2, x3, x4, x5⟩ := XB.tell
            have lx := XB.low
            clear XB
            go_wp2_with fail
            refine (unhide LK1 _ (unhide HBc)).mono ?_
            rintro e w5 ⟨rfl, hb5⟩
            have HB5 := hide (bv (bv (unhide HB) (bv (vbelow_new wr _) (unhide HBc))) hb5)
            clear hb5 x0 x1 x2 x3 x4 x5 lx LK1 YB HBc
            go_wp2
            go_round
            case rel => exact ⟨n + 1, by omega, by go_num, HB5⟩
            case measure => simp [intOf]; omega
        · have HGT : Hid (decide ((n : Int) > 0) = true) := hide (by simp; omega)
          obtain ⟨m, hnm⟩ : ∃ m, n = m + 1 := ⟨n - 1, by omega⟩
          have HNM := hide hnm
          have hm63 : m < 9223372036854775807 := by omega
          by_cases hkk : kind = 2
          · have HK2 : Hid ((kind != 2) = false) := hide (by simp [hkk])
            clear hkk hnm hn0 mem bW hmq hq9 lfq RLr hq
            go_upto_region 9 with fail
            refine frame_name ?_
            intro f0 hf0
            have s0 : G f0 0 = .int .i64 kind := by rw [hf0]; rfl
            have s5 : G f0 5 = .slice (some ⟨g, 0, none⟩) ps.length pc := by rw [hf0]; rfl
            have s7 : G f0 7 = .int .i64 (n : Int) := by rw [hf0]; rfl
            have s8 : G f0 8 = .pointer (some ⟨wr.heap.size, 0, none⟩) := by rw [hf0]; rfl
            have hsz : f0.tmps.size = 70 := by rw [hf0]; rfl
            have hdf : f0.defers = [] := by rw [hf0]
            refine region_any (I := RL (wr.alloc (.cells #[.int .i64 k9, .bool y9, .int .i64 c9, .int .i64 x9, .string t9, .slice none 0 0] 27)) f0 70 [31, 32, 33, 34, 35, 36, 37, 38, 39, 40, 41, 42, 43, 44, 45, 46, 47, 48, 49, 50, 51] [.lit (.agg #[.int .i64 k9, .bool y9, .int .i64 c9, .int .i64 x9, .string t9, .slice none 0 0]), .lit (.int .i64 0), .lit (.bool false), .lit (.bool false), .lit (.int .i64 (n : Int)), .lit (.bool true), .lit (.bool true), .lit (.int .i64 kind), .lit (.bool false), .lit (.bool false), .lit (.bool false), .any, .any, .any, .any, .any, .any, .any, .any, .lit (.bool false), .lit (.bool false)]) (by kernel_rfl) ?wait ?step ?done ?start
            case wait => exact ⟨by simp <;> rfl, by simp <;> rfl, by simp <;> rfl, by simp <;> rfl, by simp <;> rfl, by simp <;> rfl, by simp <;> rfl, by simp <;> rfl, by simp <;> rfl, by simp <;> rfl, by simp <;> rfl, by simp <;> rfl, by simp <;> rfl, by simp <;> rfl, by simp <;> rfl, by simp <;> rfl, by simp <;> rfl, by simp <;> rfl, by simp <;> rfl, by simp <;> rfl, by simp <;> rfl, trivial⟩
            case start => exact RI.start hsz hdf ((Below.refl _ _).drew)
            case step =>
              refine ⟨?_, ?_, ?_, ?_, ?_, ?_, ?_, ?_, ?_, ?_, ?_, ?_, ?_, ?_, ?_, ?_, ?_, ?_, ?_, ?_, ?_, trivial⟩
              · rintro L fa wx h hcl hL hw2
                exact rl_val h (by decide) rfl rfl rfl (by decide) rfl (run_ldX (eval_G ((h.keep (s := 8) (by decide)).trans s8)) ((unhide YB).keep h.old (unhide YB).low)) rfl
              · rintro L fa wx h hcl hL hw2
                exact rl_call (R := fun v _ => v = .int .i64 0) h (by decide) rfl rfl rfl (by decide) rfl (run_call1 (eval_G (show G fa 31 = .agg #[.int .i64 k9, .bool y9, .int .i64 c9, .int .i64 x9, .string t9, .slice none 0 0] from (h.got 0 31 (hw2 ⟨0, .data⟩ (by simp) rfl) rfl))) callR11) (xr (unhide LW _ h.old)) (fun _ _ q => q)
              · rintro L fa wx h hcl hL hw2
                exact rl_val h (by decide) rfl rfl rfl (by decide) rfl (run_neI (eval_G (show G fa 32 = .int .i64 0 from (h.got 1 32 (hw2 ⟨1, .data⟩ (by simp) rfl) rfl))) (show _ = Value.int .i64 0 from rfl) rfl) rfl
              · rintro L fa wx h hcl hL hw2
                exact rl_val h (by decide) rfl rfl rfl (by decide) rfl (run_mv (eval_G (show G fa 33 = .bool false from (h.got 2 33 (hw2 ⟨2, .data⟩ (by simp) rfl) rfl)))) rfl
              · rintro L fa wx h hcl hL hw2
                exact rl_val h (by decide) rfl rfl rfl (by decide) ((wanted_is (j := 3) (dj := 34) (b := false) (c := false) rfl rfl (by rw [h.size]; decide) (show G fa 34 = .bool false from (h.got 3 34 (hw2 ⟨3, .guard⟩ (by simp) rfl) rfl))).trans rfl) (run_mv (eval_G ((h.keep (s := 7) (by decide)).trans s7))) rfl
              · rintro L fa wx h hcl hL hw2
                exact rl_val h (by decide) rfl rfl rfl (by decide) ((wanted_is (j := 3) (dj := 34) (b := false) (c := false) rfl rfl (by rw [h.size]; decide) (show G fa 34 = .bool false from (h.got 3 34 (hw2 ⟨3, .guard⟩ (by simp) rfl) rfl))).trans rfl) (run_gtU (eval_G (show G fa 35 = .int .i64 (n : Int) from (h.got 4 35 (hw2 ⟨4, .data⟩ (by simp) rfl) rfl))) (unhide HGT)) rfl
              · rintro L fa wx h hcl hL hw2
                exact rl_val h (by decide) rfl rfl rfl (by decide) ((wanted_is (j := 3) (dj := 34) (b := false) (c := false) rfl rfl (by rw [h.size]; decide) (show G fa 34 = .bool false from (h.got 3 34 (hw2 ⟨3, .guard⟩ (by simp) rfl) rfl))).trans rfl) (run_mv (eval_G (show G fa 36 = .bool true from (h.got 5 36 (hw2 ⟨5, .data⟩ (by simp) rfl) rfl)))) rfl
              · rintro L fa wx h hcl hL hw2
                exact rl_val h (by decide) rfl rfl rfl (by decide) ((wanted_is (j := 6) (dj := 37) (b := true) (c := true) rfl rfl (by rw [h.size]; decide) (show G fa 37 = .bool true from (h.got 6 37 (hw2 ⟨6, .guard⟩ (by simp) rfl) rfl))).trans rfl) (run_mv (eval_G ((h.keep (s := 0) (by decide)).trans s0))) rfl
              · rintro L fa wx h hcl hL hw2
                exact rl_val h (by decide) rfl rfl rfl (by decide) ((wanted_is (j := 6) (dj := 37) (b := true) (c := true) rfl rfl (by rw [h.size]; decide) (show G fa 37 = .bool true from (h.got 6 37 (hw2 ⟨6, .guard⟩ (by simp) rfl) rfl))).trans rfl) (run_neU (eval_G (show G fa 38 = .int .i64 kind from (h.got 7 38 (hw2 ⟨7, .data⟩ (by simp) rfl) rfl))) (unhide HK2)) rfl
              · rintro L fa wx h hcl hL hw2
                exact rl_val h (by decide) rfl rfl rfl (by decide) ((wanted_is (j := 3) (dj := 34) (b := false) (c := false) rfl rfl (by rw [h.size]; decide) (show G fa 34 = .bool false from (h.got 3 34 (hw2 ⟨3, .guard⟩ (by simp) rfl) rfl))).trans rfl) (run_pickT (eval_G (show G fa 37 = .bool true from (h.got 6 37 (hw2 ⟨6, .data⟩ (by simp) rfl) rfl))) (eval_G (show G fa 39 = .bool false from (h.got 8 39 (hw2 ⟨8, .data⟩ (by simp) rfl) rfl)))) rfl
              · rintro L fa wx h hcl hL hw2
                exact rl_val h (by decide) rfl rfl rfl (by decide) ((wanted_is (j := 3) (dj := 34) (b := false) (c := false) rfl rfl (by rw [h.size]; decide) (show G fa 34 = .bool false from (h.got 3 34 (hw2 ⟨3, .guard⟩ (by simp) rfl) rfl))).trans rfl) (run_mv (eval_G (show G fa 40 = .bool false from (h.got 9 40 (hw2 ⟨9, .data⟩ (by simp) rfl) rfl)))) rfl
              · rintro L fa wx h hcl hL hw2
                exact rl_skip h (by decide) rfl rfl rfl (by decide) ((wanted_is (j := 10) (dj := 41) (b := false) (c := true) rfl rfl (by rw [h.size]; decide) (show G fa 41 = .bool false from (h.got 10 41 (hw2 ⟨10, .guard⟩ (by simp) rfl) rfl))).trans rfl) trivial
              · rintro L fa wx h hcl hL hw2
                exact rl_skip h (by decide) rfl rfl rfl (by decide) ((wanted_is (j := 10) (dj := 41) (b := false) (c := true) rfl rfl (by rw [h.size]; decide) (show G fa 41 = .bool false from (h.got 10 41 (hw2 ⟨10, .guard⟩ (by simp) rfl) rfl))).trans rfl) trivial
              · rintro L fa wx h hcl hL hw2
                exact rl_skip h (by decide) rfl rfl rfl (by decide) ((wanted_is (j := 10) (dj := 41) (b := false) (c := true) rfl rfl (by rw [h.size]; decide) (show G fa 41 = .bool false from (h.got 10 41 (hw2 ⟨10, .guard⟩ (by simp) rfl) rfl))).trans rfl) trivial
              · rintro L fa wx h hcl hL hw2
                exact rl_skip h (by decide) rfl rfl rfl (by decide) ((wanted_is (j := 10) (dj := 41) (b := false) (c := true) rfl rfl (by rw [h.size]; decide) (show G fa 41 = .bool false from (h.got 10 41 (hw2 ⟨10, .guard⟩ (by simp) rfl) rfl))).trans rfl) trivial
              · rintro L fa wx h hcl hL hw2
                exact rl_skip h (by decide) rfl rfl rfl (by decide) ((wanted_is (j := 10) (dj := 41) (b := false) (c := true) rfl rfl (by rw [h.size]; decide) (show G fa 41 = .bool false from (h.got 10 41 (hw2 ⟨10, .guard⟩ (by simp) rfl) rfl))).trans rfl) trivial
              · rintro L fa wx h hcl hL hw2
                exact rl_skip h (by decide) rfl rfl rfl (by decide) ((wanted_is (j := 10) (dj := 41) (b := false) (c := true) rfl rfl (by rw [h.size]; decide) (show G fa 41 = .bool false from (h.got 10 41 (hw2 ⟨10, .guard⟩ (by simp) rfl) rfl))).trans rfl) trivial
              · rintro L fa wx h hcl hL hw2
                exact rl_skip h (by decide) rfl rfl rfl (by decide) ((wanted_is (j := 10) (dj := 41) (b := false) (c := true) rfl rfl (by rw [h.size]; decide) (show G fa 41 = .bool false from (h.got 10 41 (hw2 ⟨10, .guard⟩ (by simp) rfl) rfl))).trans rfl) trivial
              · rintro L fa wx h hcl hL hw2
                exact rl_skip h (by decide) rfl rfl rfl (by decide) ((wanted_is (j := 10) (dj := 41) (b := false) (c := true) rfl rfl (by rw [h.size]; decide) (show G fa 41 = .bool false from (h.got 10 41 (hw2 ⟨10, .guard⟩ (by simp) rfl) rfl))).trans rfl) trivial
              · rintro L fa wx h hcl hL hw2
                exact rl_val h (by decide) rfl rfl rfl (by decide) ((wanted_is (j := 3) (dj := 34) (b := false) (c := false) rfl rfl (by rw [h.size]; decide) (show G fa 34 = .bool false from (h.got 3 34 (hw2 ⟨3, .guard⟩ (by simp) rfl) rfl))).trans rfl) (run_pickF (eval_G (show G fa 41 = .bool false from (h.got 10 41 (hw2 ⟨10, .data⟩ (by simp) rfl) rfl))) rfl) rfl
              · rintro L fa wx h hcl hL hw2
                exact rl_val h (by decide) rfl rfl rfl (by decide) rfl (run_pickF (eval_G (show G fa 34 = .bool false from (h.got 3 34 (hw2 ⟨3, .data⟩ (by simp) rfl) rfl))) (eval_G (show G fa 50 = .bool false from (h.got 19 50 (hw2 ⟨19, .data⟩ (by simp) rfl) rfl)))) rfl
            case done =>
              rintro L f1 wd h' hall
              have e51 : G f1 51 = .bool false := h'.got 20 51 (hall 20 (by simp)) rfl
              have HBc := hide h'.old
              have e := puts_is [31, 32, 33, 34, 35, 36, 37, 38, 39, 40, 41, 42, 43, 44, 45, 46, 47, 48, 49, 50, 51] f0 (h'.size.trans hsz.symm) (h'.defs.trans hdf.symm) (by rw [hsz]; decide) (fun i hi => h'.keep hi)
              rw [hf0] at e
              simp only [List.foldl_cons, List.foldl_nil] at e
              rw [e51] at e
              generalize G f1 31 = q31 at e
              generalize G f1 32 = q32 at e
              generalize G f1 33 = q33 at e
              generalize G f1 34 = q34 at e
              generalize G f1 35 = q35 at e
              generalize G f1 36 = q36 at e
              generalize G f1 37 = q37 at e
              generalize G f1 38 = q38 at e
              generalize G f1 39 = q39 at e
              generalize G f1 40 = q40 at e
              generalize G f1 41 = q41 at e
              generalize G f1 42 = q42 at e
              generalize G f1 43 = q43 at e
              generalize G f1 44 = q44 at e
              generalize G f1 45 = q45 at e
              generalize G f1 46 = q46 at e
              generalize G f1 47 = q47 at e
              generalize G f1 48 = q48 at e
              generalize G f1 49 = q49 at e
              generalize G f1 50 = q50 at e
              replace e : f1 = { tmps := #[.int .i64 kind, .slice ad ts.length cap, undef, undef, u4, .slice (some ⟨g, 0, none⟩) ps.length pc, .int .i64 0, .int .i64 (n : Int), .pointer (some ⟨wr.heap.size, 0, none⟩), u9, u10, .bool true, .bool false, .tuple #[.slice (some ⟨g, 0, none⟩) ps.length pc, .int .i64 0], .int .i64 kind, .slice ad ts.length cap, .tuple #[.slice (some ⟨g, 0, none⟩) ps.length pc, .int .i64 0], .slice (some ⟨g, 0, none⟩) ps.length pc, .int .i64 0, .int .i64 0, .bool false, undef, undef, undef, .slice (some ⟨g, 0, none⟩) ps.length pc, .int .i64 (ps.length : Int), .int .i64 (n : Int), .bool true, .int .i64 (n : Int), .pointer (some ⟨g, n * 6, none⟩), .agg #[.int .i64 k9, .bool y9, .int .i64 c9, .int .i64 x9, .string t9, .slice none 0 0], q31, q32, q33, q34, q35, q36, q37, q38, q39, q40, q41, q42, q43, q44, q45, q46, q47, q48, q49, q50, .bool false, u52, u53, u54, u55, u56, u57, u58, u59, u60, u61, u62, u63, u64, u65, u66, undef, undef, undef], defers := [] } := e.trans (by kernel_rfl)
              clear h' hall hsz hdf s0 s5 s7 s8 hf0 f0 e51 LW HGT HNM HK2 hm63
              subst e
              have XB := (unhide YB).keep (unhide HBc) (unhide YB).low
              obtain ⟨x0, x1, x2, x3, x4, x5⟩ := XB.tell
              have lx := XB.low
              clear XB
              go_wp2_with fail
              refine (unhide LK1 _ (unhide HBc)).mono ?_
              rintro e w5 ⟨rfl, hb5⟩
              have HB5 := hide (bv (bv (unhide HB) (bv (vbelow_new wr _) (unhide HBc))) hb5)
              clear hb5 x0 x1 x2 x3 x4 x5 lx LK1 YB HBc
              go_wp2
              go_round
              case rel => exact ⟨n + 1, by omega, by go_num, HB5⟩
              case measure => simp [intOf]; omega
          · have HK2 : Hid ((kind != 2) = true) := hide (by simp [hkk])
            have hml2 : m < ps.length := by omega
            obtain ⟨z, hz⟩ : ∃ z, ps[m]? = some z := ⟨_, List.getElem?_eq_getElem hml2⟩
            have lfz := points_leaf (unhide HP) (unhide E0) hz
            obtain ⟨k8, y8, c8, x8, t8, hz8, hmz, d0, d1, d2, d3, d4, d5⟩ := leaf_mem RLr hz lfz
            have hzq : lessH z q = 2 := points_less (unhide HP) (unhide E0) hkk hz (by rw [← hnm]; exact hq)
            have LS : Hid (∀ wx, Below (wr.alloc (.cells #[.int .i64 k9, .bool y9, .int .i64 c9, .int .i64 x9, .string t9, .slice none 0 0] 27)).heap.size (wr.alloc (.cells #[.int .i64 k9, .bool y9, .int .i64 c9, .int .i64 x9, .string t9, .slice none 0 0] 27)) wx → Calls Tryz.prog 12 #[.agg #[.int .i64 k8, .bool y8, .int .i64 c8, .int .i64 x8, .string t8, .slice none 0 0], .agg #[.int .i64 k9, .bool y9, .int .i64 c9, .int .i64 x9, .string t9, .slice none 0 0]] wx fun e w' => e = .returned (.int .i64 2) ∧ Below wx.heap.size wx w') := hide fun wx hx => by
              have := unhide DLc z q _ _ _ _ wx (Mem.mono (bv bW hx).size (Mem.below (bv bW hx) hmz)) (mem wx hx).2 lfz.ok lfq.ok
              rw [hzq] at this
              exact this
            have lg : g < (wr.alloc (.cells #[.int .i64 k9, .bool y9, .int .i64 c9, .int .i64 x9, .string t9, .slice none 0 0] 27)).heap.size := Nat.lt_of_lt_of_le lg0 bW.size
            have g0 := (bW.cell (p := ⟨g, m * 6, none⟩) lg0).trans d0
            have g1 := (bW.cell (p := ⟨g, m * 6 + 1, none⟩) lg0).trans d1
            have g2 := (bW.cell (p := ⟨g, m * 6 + 2, none⟩) lg0).trans d2
            have g3 := (bW.cell (p := ⟨g, m * 6 + 3, none⟩) lg0).trans d3
            have g4 := (bW.cell (p := ⟨g, m * 6 + 4, none⟩) lg0).trans d4
            have g5 := (bW.cell (p := ⟨g, m * 6 + 5, none⟩) lg0).trans d5
            clear hkk hnm hn0 mem bW hmq hq9 lfq RLr hq lfz hz hmz hz8 hzq d0 d1 d2 d3 d4 d5
            go_upto_region 9 with fail
            refine frame_name ?_
            intro f0 hf0
            have s0 : G f0 0 = .int .i64 kind := by rw [hf0]; rfl
            have s5 : G f0 5 = .slice (some ⟨g, 0, none⟩) ps.length pc := by rw [hf0]; rfl
            have s7 : G f0 7 = .int .i64 (n : Int) := by rw [hf0]; rfl
            have s8 : G f0 8 = .pointer (some ⟨wr.heap.size, 0, none⟩) := by rw [hf0]; rfl
            have hsz : f0.tmps.size = 70 := by rw [hf0]; rfl
            have hdf : f0.defers = [] := by rw [hf0]
            refine region_any (I := RL (wr.alloc (.cells #[.int .i64 k9, .bool y9, .int .i64 c9, .int .i64 x9, .string t9, .slice none 0 0] 27)) f0 70 [31, 32, 33, 34, 35, 36, 37, 38, 39, 40, 41, 42, 43, 44, 45, 46, 47, 48, 49, 50, 51] [.lit (.agg #[.int .i64 k9, .bool y9, .int .i64 c9, .int .i64 x9, .string t9, .slice none 0 0]), .lit (.int .i64 0), .lit (.bool false), .lit (.bool false), .lit (.int .i64 (n : Int)), .lit (.bool true), .lit (.bool true), .lit (.int .i64 kind), .lit (.bool true), .lit (.bool true), .lit (.bool true), .lit (.slice (some ⟨g, 0, none⟩) ps.length pc), .lit (.int .i64 (n : Int)), .lit (.int .i64 (m : Int)), .lit (.pointer (some ⟨g, m * 6, none⟩)), .lit (.agg #[.int .i64 k8, .bool y8, .int .i64 c8, .int .i64 x8, .string t8, .slice none 0 0]), .lit (.agg #[.int .i64 k9, .bool y9, .int .i64 c9, .int .i64 x9, .string t9, .slice none 0 0]), .lit (.int .i64 2), .lit (.bool false), .lit (.bool false), .lit (.bool false)]) (by kernel_rfl) ?wait ?step ?done ?start
            case wait => exact ⟨by simp <;> rfl, by simp <;> rfl, by simp <;> rfl, by simp <;> rfl, by simp <;> rfl, by simp <;> rfl, by simp <;> rfl, by simp <;> rfl, by simp <;> rfl, by simp <;> rfl, by simp <;> rfl, by simp <;> rfl, by simp <;> rfl, by simp <;> rfl, by simp <;> rfl, by simp <;> rfl, by simp <;> rfl, by simp <;> rfl, by simp <;> rfl, by simp <;> rfl, by simp <;> rfl, trivial⟩
            case start => exact RI.start hsz hdf ((Below.refl _ _).drew)
            case step =>
              refine ⟨?_, ?_, ?_, ?_, ?_, ?_, ?_, ?_, ?_, ?_, ?_, ?_, ?_, ?_, ?_, ?_, ?_, ?_, ?_, ?_, ?_, trivial⟩
              · rintro L fa wx h hcl hL hw2
                exact rl_val h (by decide) rfl rfl rfl (by decide) rfl (run_ldX (eval_G ((h.keep (s := 8) (by decide)).trans s8)) ((unhide YB).keep h.old (unhide YB).low)) rfl
              · rintro L fa wx h hcl hL hw2
                exact rl_call (R := fun v _ => v = .int .i64 0) h (by decide) rfl rfl rfl (by decide) rfl (run_call1 (eval_G (show G fa 31 = .agg #[.int .i64 k9, .bool y9, .int .i64 c9, .int .i64 x9, .string t9, .slice none 0 0] from (h.got 0 31 (hw2 ⟨0, .data⟩ (by simp) rfl) rfl))) callR11) (xr (unhide LW _ h.old)) (fun _ _ q => q)
              · rintro L fa wx h hcl hL hw2
                exact rl_val h (by decide) rfl rfl rfl (by decide) rfl (run_neI (eval_G (show G fa 32 = .int .i64 0 from (h.got 1 32 (hw2 ⟨1, .data⟩ (by simp) rfl) rfl))) (show _ = Value.int .i64 0 from rfl) rfl) rfl
              · rintro L fa wx h hcl hL hw2
                exact rl_val h (by decide) rfl rfl rfl (by decide) rfl (run_mv (eval_G (show G fa 33 = .bool false from (h.got 2 33 (hw2 ⟨2, .data⟩ (by simp) rfl) rfl)))) rfl
              · rintro L fa wx h hcl hL hw2
                exact rl_val h (by decide) rfl rfl rfl (by decide) ((wanted_is (j := 3) (dj := 34) (b := false) (c := false) rfl rfl (by rw [h.size]; decide) (show G fa 34 = .bool false from (h.got 3 34 (hw2 ⟨3, .guard⟩ (by simp) rfl) rfl))).trans rfl) (run_mv (eval_G ((h.keep (s := 7) (by decide)).trans s7))) rfl
              · rintro L fa wx h hcl hL hw2
                exact rl_val h (by decide) rfl rfl rfl (by decide) ((wanted_is (j := 3) (dj := 34) (b := false) (c := false) rfl rfl (by rw [h.size]; decide) (show G fa 34 = .bool false from (h.got 3 34 (hw2 ⟨3, .guard⟩ (by simp) rfl) rfl))).trans rfl) (run_gtU (eval_G (show G fa 35 = .int .i64 (n : Int) from (h.got 4 35 (hw2 ⟨4, .data⟩ (by simp) rfl) rfl))) (unhide HGT)) rfl
              · rintro L fa wx h hcl hL hw2
                exact rl_val h (by decide) rfl rfl rfl (by decide) ((wanted_is (j := 3) (dj := 34) (b := false) (c := false) rfl rfl (by rw [h.size]; decide) (show G fa 34 = .bool false from (h.got 3 34 (hw2 ⟨3, .guard⟩ (by simp) rfl) rfl))).trans rfl) (run_mv (eval_G (show G fa 36 = .bool true from (h.got 5 36 (hw2 ⟨5, .data⟩ (by simp) rfl) rfl)))) rfl
              · rintro L fa wx h hcl hL hw2
                exact rl_val h (by decide) rfl rfl rfl (by decide) ((wanted_is (j := 6) (dj := 37) (b := true) (c := true) rfl rfl (by rw [h.size]; decide) (show G fa 37 = .bool true from (h.got 6 37 (hw2 ⟨6, .guard⟩ (by simp) rfl) rfl))).trans rfl) (run_mv (eval_G ((h.keep (s := 0) (by decide)).trans s0))) rfl
              · rintro L fa wx h hcl hL hw2
                exact rl_val h (by decide) rfl rfl rfl (by decide) ((wanted_is (j := 6) (dj := 37) (b := true) (c := true) rfl rfl (by rw [h.size]; decide) (show G fa 37 = .bool true from (h.got 6 37 (hw2 ⟨6, .guard⟩ (by simp) rfl) rfl))).trans rfl) (run_neU (eval_G (show G fa 38 = .int .i64 kind from (h.got 7 38 (hw2 ⟨7, .data⟩ (by simp) rfl) rfl))) (unhide HK2)) rfl
              · rintro L fa wx h hcl hL hw2
                exact rl_val h (by decide) rfl rfl rfl (by decide) ((wanted_is (j := 3) (dj := 34) (b := false) (c := false) rfl rfl (by rw [h.size]; decide) (show G fa 34 = .bool false from (h.got 3 34 (hw2 ⟨3, .guard⟩ (by simp) rfl) rfl))).trans rfl) (run_pickT (eval_G (show G fa 37 = .bool true from (h.got 6 37 (hw2 ⟨6, .data⟩ (by simp) rfl) rfl))) (eval_G (show G fa 39 = .bool true from (h.got 8 39 (hw2 ⟨8, .data⟩ (by simp) rfl) rfl)))) rfl
              · rintro L fa wx h hcl hL hw2
                exact rl_val h (by decide) rfl rfl rfl (by decide) ((wanted_is (j := 3) (dj := 34) (b := false) (c := false) rfl rfl (by rw [h.size]; decide) (show G fa 34 = .bool false from (h.got 3 34 (hw2 ⟨3, .guard⟩ (by simp) rfl) rfl))).trans rfl) (run_mv (eval_G (show G fa 40 = .bool true from (h.got 9 40 (hw2 ⟨9, .data⟩ (by simp) rfl) rfl)))) rfl
              · rintro L fa wx h hcl hL hw2
                exact rl_val h (by decide) rfl rfl rfl (by decide) ((wanted_is (j := 10) (dj := 41) (b := true) (c := true) rfl rfl (by rw [h.size]; decide) (show G fa 41 = .bool true from (h.got 10 41 (hw2 ⟨10, .guard⟩ (by simp) rfl) rfl))).trans rfl) (run_mv (eval_G ((h.keep (s := 5) (by decide)).trans s5))) rfl
              · rintro L fa wx h hcl hL hw2
                exact rl_val h (by decide) rfl rfl rfl (by decide) ((wanted_is (j := 10) (dj := 41) (b := true) (c := true) rfl rfl (by rw [h.size]; decide) (show G fa 41 = .bool true from (h.got 10 41 (hw2 ⟨10, .guard⟩ (by simp) rfl) rfl))).trans rfl) (run_mv (eval_G ((h.keep (s := 7) (by decide)).trans s7))) rfl
              · rintro L fa wx h hcl hL hw2
                exact rl_val h (by decide) rfl rfl rfl (by decide) ((wanted_is (j := 10) (dj := 41) (b := true) (c := true) rfl rfl (by rw [h.size]; decide) (show G fa 41 = .bool true from (h.got 10 41 (hw2 ⟨10, .guard⟩ (by simp) rfl) rfl))).trans rfl) (run_subU (eval_G (show G fa 43 = .int .i64 (n : Int) from (h.got 12 43 (hw2 ⟨12, .data⟩ (by simp) rfl) rfl))) (unhide HNM) hm63) rfl
              · rintro L fa wx h hcl hL hw2
                exact rl_val h (by decide) rfl rfl rfl (by decide) ((wanted_is (j := 10) (dj := 41) (b := true) (c := true) rfl rfl (by rw [h.size]; decide) (show G fa 41 = .bool true from (h.got 10 41 (hw2 ⟨10, .guard⟩ (by simp) rfl) rfl))).trans rfl) (run_ixU (eval_G (show G fa 42 = .slice (some ⟨g, 0, none⟩) ps.length pc from (h.got 11 42 (hw2 ⟨11, .data⟩ (by simp) rfl) rfl))) (eval_G (show G fa 44 = .int .i64 (m : Int) from (h.got 13 44 (hw2 ⟨13, .data⟩ (by simp) rfl) rfl))) hml2) rfl
              · rintro L fa wx h hcl hL hw2
                exact rl_val h (by decide) rfl rfl rfl (by decide) ((wanted_is (j := 10) (dj := 41) (b := true) (c := true) rfl rfl (by rw [h.size]; decide) (show G fa 41 = .bool true from (h.got 10 41 (hw2 ⟨10, .guard⟩ (by simp) rfl) rfl))).trans rfl) (run_ld6 (eval_G (show G fa 45 = .pointer (some ⟨g, m * 6, none⟩) from (h.got 14 45 (hw2 ⟨14, .data⟩ (by simp) rfl) rfl))) ((h.old.cell (p := ⟨g, m * 6, none⟩) lg).trans g0) ((h.old.cell (p := ⟨g, m * 6 + 1, none⟩) lg).trans g1) ((h.old.cell (p := ⟨g, m * 6 + 2, none⟩) lg).trans g2) ((h.old.cell (p := ⟨g, m * 6 + 3, none⟩) lg).trans g3) ((h.old.cell (p := ⟨g, m * 6 + 4, none⟩) lg).trans g4) ((h.old.cell (p := ⟨g, m * 6 + 5, none⟩) lg).trans g5)) rfl
              · rintro L fa wx h hcl hL hw2
                exact rl_val h (by decide) rfl rfl rfl (by decide) ((wanted_is (j := 10) (dj := 41) (b := true) (c := true) rfl rfl (by rw [h.size]; decide) (show G fa 41 = .bool true from (h.got 10 41 (hw2 ⟨10, .guard⟩ (by simp) rfl) rfl))).trans rfl) (run_ldX (eval_G ((h.keep (s := 8) (by decide)).trans s8)) ((unhide YB).keep h.old (unhide YB).low)) rfl
              · rintro L fa wx h hcl hL hw2
                exact rl_call (R := fun v _ => v = .int .i64 2) h (by decide) rfl rfl rfl (by decide) ((wanted_is (j := 10) (dj := 41) (b := true) (c := true) rfl rfl (by rw [h.size]; decide) (show G fa 41 = .bool true from (h.got 10 41 (hw2 ⟨10, .guard⟩ (by simp) rfl) rfl))).trans rfl) (run_call2 (eval_G (show G fa 46 = .agg #[.int .i64 k8, .bool y8, .int .i64 c8, .int .i64 x8, .string t8, .slice none 0 0] from (h.got 15 46 (hw2 ⟨15, .data⟩ (by simp) rfl) rfl))) (eval_G (show G fa 47 = .agg #[.int .i64 k9, .bool y9, .int .i64 c9, .int .i64 x9, .string t9, .slice none 0 0] from (h.got 16 47 (hw2 ⟨16, .data⟩ (by simp) rfl) rfl))) callR12) (xr (unhide LS _ h.old)) (fun _ _ q => q)
              · rintro L fa wx h hcl hL hw2
                exact rl_val h (by decide) rfl rfl rfl (by decide) ((wanted_is (j := 10) (dj := 41) (b := true) (c := true) rfl rfl (by rw [h.size]; decide) (show G fa 41 = .bool true from (h.got 10 41 (hw2 ⟨10, .guard⟩ (by simp) rfl) rfl))).trans rfl) (run_neU (eval_G (show G fa 48 = .int .i64 2 from (h.got 17 48 (hw2 ⟨17, .data⟩ (by simp) rfl) rfl))) rfl) rfl
              · rintro L fa wx h hcl hL hw2
                exact rl_val h (by decide) rfl rfl rfl (by decide) ((wanted_is (j := 3) (dj := 34) (b := false) (c := false) rfl rfl (by rw [h.size]; decide) (show G fa 34 = .bool false from (h.got 3 34 (hw2 ⟨3, .guard⟩ (by simp) rfl) rfl))).trans rfl) (run_pickT (eval_G (show G fa 41 = .bool true from (h.got 10 41 (hw2 ⟨10, .data⟩ (by simp) rfl) rfl))) (eval_G (show G fa 49 = .bool false from (h.got 18 49 (hw2 ⟨18, .data⟩ (by simp) rfl) rfl)))) rfl
              · rintro L fa wx h hcl hL hw2
                exact rl_val h (by decide) rfl rfl rfl (by decide) rfl (run_pickF (eval_G (show G fa 34 = .bool false from (h.got 3 34 (hw2 ⟨3, .data⟩ (by simp) rfl) rfl))) (eval_G (show G fa 50 = .bool false from (h.got 19 50 (hw2 ⟨19, .data⟩ (by simp) rfl) rfl)))) rfl
            case done =>
              rintro L f1 wd h' hall
              have e51 : G f1 51 = .bool false := h'.got 20 51 (hall 20 (by simp)) rfl
              have HBc := hide h'.old
              have e := puts_is [31, 32, 33, 34, 35, 36, 37, 38, 39, 40, 41, 42, 43, 44, 45, 46, 47, 48, 49, 50, 51] f0 (h'.size.trans hsz.symm) (h'.defs.trans hdf.symm) (by rw [hsz]; decide) (fun i hi => h'.keep hi)
              rw [hf0] at e
              simp only [List.foldl_cons, List.foldl_nil] at e
              rw [e51] at e
              generalize G f1 31 = q31 at e
              generalize G f1 32 = q32 at e
              generalize G f1 33 = q33 at e
              generalize G f1 34 = q34 at e
              generalize G f1 35 = q35 at e
              generalize G f1 36 = q36 at e
              generalize G f1 37 = q37 at e
              generalize G f1 38 = q38 at e
              generalize G f1 39 = q39 at e
              generalize G f1 40 = q40 at e
              generalize G f1 41 = q41 at e
              generalize G f1 42 = q42 at e
              generalize G f1 43 = q43 at e
              generalize G f1 44 = q44 at e
              generalize G f1 45 = q45 at e
              generalize G f1 46 = q46 at e
              generalize G f1 47 = q47 at e
              generalize G f1 48 = q48 at e
              generalize G f1 49 = q49 at e
              generalize G f1 50 = q50 at e
              replace e : f1 = { tmps := #[.int .i64 kind, .slice ad ts.length cap, undef, undef, u4, .slice (some ⟨g, 0, none⟩) ps.length pc, .int .i64 0, .int .i64 (n : Int), .pointer (some ⟨wr.heap.size, 0, none⟩), u9, u10, .bool true, .bool false, .tuple #[.slice (some ⟨g, 0, none⟩) ps.length pc, .int .i64 0], .int .i64 kind, .slice ad ts.length cap, .tuple #[.slice (some ⟨g, 0, none⟩) ps.length pc, .int .i64 0], .slice (some ⟨g, 0, none⟩) ps.length pc, .int .i64 0, .int .i64 0, .bool false, undef, undef, undef, .slice (some ⟨g, 0, none⟩) ps.length pc, .int .i64 (ps.length : Int), .int .i64 (n : Int), .bool true, .int .i64 (n : Int), .pointer (some ⟨g, n * 6, none⟩), .agg #[.int .i64 k9, .bool y9, .int .i64 c9, .int .i64 x9, .string t9, .slice none 0 0], q31, q32, q33, q34, q35, q36, q37, q38, q39, q40, q41, q42, q43, q44, q45, q46, q47, q48, q49, q50, .bool false, u52, u53, u54, u55, u56, u57, u58, u59, u60, u61, u62, u63, u64, u65, u66, undef, undef, undef], defers := [] } := e.trans (by kernel_rfl)
              clear h' hall hsz hdf s0 s5 s7 s8 hf0 f0 e51 LW HGT HNM HK2 hm63 LS g0 g1 g2 g3 g4 g5 lg hml2
              subst e
              have XB := (unhide YB).keep (unhide HBc) (unhide YB).low
              obtain ⟨x0, x1, x2, x3, x4, x5⟩ := XB.tell
              have lx := XB.low
              clear XB
              go_wp2_with fail
              refine (unhide LK1 _ (unhide HBc)).mono ?_
              rintro e w5 ⟨rfl, hb5⟩
              have HB5 := hide (bv (bv (unhide HB) (bv (vbelow_new wr _) (unhide HBc))) hb5)
              clear hb5 x0 x1 x2 x3 x4 x5 lx LK1 YB HBc
              go_wp2
              go_round
              case rel => exact ⟨n + 1, by omega, by go_num, HB5⟩
              case measure => simp [intOf]; omega
      · obtain rfl : n = ps.length := by omega
        go_wp2
        go_ret
        exact ⟨rfl, bv (unhide HB2) (unhide HB)⟩
  · have hps := isPoints_bad hp h0
    subst hps
    obtain ⟨a, c, rfl⟩ : ∃ a c, u = .slice a 0 c := by
      rcases ho.2 with ⟨q, _⟩ | ⟨g, cap', cur, q, _⟩
      · exact ⟨none, 0, q⟩
      · exact ⟨some ⟨g, 0, none⟩, cap', q⟩
    have h0' : (er != 0) = true := by simp [h0]
    clear h0 hp ho
    go_wp2
    go_ret
    exact ⟨rfl, unhide HB2⟩
end Go.Proofs.YtdkgapapdjefdaaGreatDoor
