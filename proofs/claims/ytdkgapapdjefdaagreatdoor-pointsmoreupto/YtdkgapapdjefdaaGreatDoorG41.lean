/- Tests put behind tests: append(s, l...) of lists of tests, cell by cell. -/
import Derived.Test.YtdkgapapdjefdaaGreatDoorG39
import Derived.Test.YtdkgapapdjefdaaGreatDoorG30
import Derived.Test.YtdkgapapdjefdaaGreatDoorG40
namespace Go.Proofs.YtdkgapapdjefdaaGreatDoor
open Go.RowKit Go.Sort

abbrev zS16 : Array Value := #[.int .i64 0, .int .i64 0, .bool false, .int .i64 0, .int .i64 0, .string ⟨#[]⟩, .slice none 0 0, .int .i64 0, .bool false, .int .i64 0, .int .i64 0, .string ⟨#[]⟩, .slice none 0 0, .bool false, .bool false, .slice none 0 0]
theorem info_S : (Tryz.prog.info? 35).map (fun i => (i.zero, i.size, i.bytes)) = some (some (.agg zS16), 16, 184) := by kernel_rfl

/-- cells that are tests -/
structure CsT (B : Nat) (w : World) (ts : List TS) (cs : List Value) : Prop where
  len : cs.length = ts.length * 16
  one : ∀ u ∈ cs, u.oneCell' = true
  mem : ∀ i T, ts[i]? = some T → ∃ q : Array Value, q.size = 16 ∧ (∀ j v, q[j]? = some v → cs[i * 16 + j]? = some v) ∧ MemS B w T q
section
variable {B B' : Nat} {w w' : World} {ts l m : List TS} {cs ds : List Value}
theorem CsT.below (h : CsT B w ts cs) (hb : Below B w w') : CsT B w' ts cs :=
  ⟨h.len, h.one, fun i T hi => by
    obtain ⟨q, h1, h2, h3⟩ := h.mem i T hi
    exact ⟨q, h1, h2, MemS.below hb h3⟩⟩
theorem CsT.mono (h : CsT B w ts cs) (hB : B ≤ B') : CsT B' w ts cs :=
  ⟨h.len, h.one, fun i T hi => by
    obtain ⟨q, h1, h2, h3⟩ := h.mem i T hi
    exact ⟨q, h1, h2, MemS.mono hB h3⟩⟩
theorem CsT.nil : CsT B w [] [] := ⟨rfl, (fun _ h => by cases h), (fun _ _ h => by simp at h)⟩
theorem CsT.app (h : CsT B w l cs) (k : CsT B w m ds) : CsT B w (l ++ m) (cs ++ ds) := by
  refine ⟨?_, fun u hu => ?_, fun i T hi => ?_⟩
  · rw [List.length_append, List.length_append, h.len, k.len]
    omega
  · rcases List.mem_append.1 hu with q | q
    · exact h.one u q
    · exact k.one u q
  · by_cases hl : i < l.length
    · rw [List.getElem?_append_left hl] at hi
      obtain ⟨q, h1, h2, h3⟩ := h.mem i T hi
      refine ⟨q, h1, fun j v hj => ?_, h3⟩
      have hj' : j < q.size := (Array.getElem?_eq_some_iff.1 hj).1
      rw [List.getElem?_append_left (by rw [h.len]; omega)]
      exact h2 j v hj
    · rw [List.getElem?_append_right (by omega)] at hi
      obtain ⟨q, h1, h2, h3⟩ := k.mem _ T hi
      refine ⟨q, h1, fun j v hj => ?_, h3⟩
      rw [List.getElem?_append_right (by rw [h.len]; omega), h.len]
      have := h2 j v hj
      rwa [show i * 16 + j - l.length * 16 = (i - l.length) * 16 + j by omega]
end
theorem memS_cells {B : Nat} {w : World} {T : TS} {q : Array Value} (h : MemS B w T q) : ∀ u ∈ q.toList, u.oneCell' = true := by
  cases T with
  | mk k ta tb oa ob kk =>
    rw [MemS] at h
    obtain ⟨_, d0, d1, d2, d3, d4, d5, e0, e1, e2, e3, e4, e5, ad, cp, hta, htb, rfl, _⟩ := h
    obtain ⟨y3, r3, z3, t3, l3, n3, p3, rfl, rfl, rfl, rfl, rfl, rfl⟩ := hta.six
    obtain ⟨y4, r4, z4, t4, l4, n4, p4, rfl, rfl, rfl, rfl, rfl, rfl⟩ := htb.six
    intro u hu
    simp only [List.mem_cons, List.not_mem_nil, or_false] at hu
    rcases hu with rfl | rfl | rfl | rfl | rfl | rfl | rfl | rfl | rfl | rfl | rfl | rfl | rfl | rfl | rfl | rfl <;> rfl
theorem csT_one {B : Nat} {w : World} {T : TS} {q : Array Value} (hs : q.size = 16) (h : MemS B w T q) : CsT B w [T] q.toList := by
  refine ⟨by simpa using hs, memS_cells h, fun i U hi => ?_⟩
  cases i with
  | zero =>
    simp at hi
    subst hi
    exact ⟨q, hs, fun j v hj => by simpa using hj, h⟩
  | succ i => simp at hi
theorem memSL_cells {B : Nat} {w : World} : ∀ (ts : List TS) (b off : Nat), MemSL B w ts b off → ∃ cs, CsT B w ts cs ∧ ∀ j u, cs[j]? = some u → w.cell? ⟨b, off + j, none⟩ = some u
  | [], b, off, _ => ⟨[], CsT.nil, fun j u h => by simp at h⟩
  | T :: ts, b, off, h => by
    rw [MemSL] at h
    obtain ⟨⟨q, h16, hm⟩, hr⟩ := h
    obtain ⟨cs, h1, h2⟩ := memSL_cells ts b (off + 16) hr
    refine ⟨q.toList ++ cs, (csT_one h16.size hm).app h1, fun j u hj => ?_⟩
    have hq : q.toList.length = 16 := by simpa using h16.size
    by_cases hl : j < 16
    · rw [List.getElem?_append_left (by omega)] at hj
      exact h16.cell j u (by simpa using hj)
    · rw [List.getElem?_append_right (by omega), hq] at hj
      have := h2 _ u hj
      rwa [show off + 16 + (j - 16) = off + j by omega] at this
theorem addr_add (b off j : Nat) : (⟨b, off, none⟩ : Addr).add j = ⟨b, off + j, none⟩ := by
  by_cases h : j = 0
  · subst h; rfl
  · simp only [Addr.add, if_neg h]

theorem append_none (v : Value) (n base c : Nat) (xs : List Value) (ty : TypeId) (w : World) (hown : w.ownsRow base 35 16 v n xs) : (Builtin.append_ #[22, 22] ty #[v, .slice none 0 c]).run Tryz.prog w = .ok v w := by
  rcases hown.2 with ⟨rfl, rfl⟩ | ⟨g, cap, cur, rfl, _, hgb, r1, r2, r3, r4⟩
  · simp [go_sem, Builtin.append_]
  · simp [go_sem, Builtin.append_, r1]

theorem run_append_tests (B : Nat) (ts : List TS) (x : Value) (v : Value) (n base : Nat) (xs : List Value) (ty : TypeId) (w : World) (hown : w.ownsRow base 35 16 v n xs) (hx : SlT B w ts x) (h63 : n + ts.length ≤ 3000000) (hbase : base ≤ w.heap.size) :
    ∃ cs v' w', CsT B w ts cs ∧ (Builtin.append_ #[22, 22] ty #[v, x]).run Tryz.prog w = .ok v' w' ∧ w'.ownsRow base 35 16 v' (n + ts.length) (xs ++ cs) ∧ w.grownBy w' v.ownBlock := by
  obtain ⟨i0, hi, hz0, hz1, hz2⟩ := info_parts info_S
  obtain ⟨_, ad, cap, rfl, hm⟩ := hx
  have own := fun (a : Addr) (cs : List Value) (hC : CsT B w ts cs) (hc : ∀ j u, cs[j]? = some u → w.cell? (a.add j) = some u) =>
    run_append_own (P := Tryz.prog) w base 22 ty 35 i0 _ 16 184 Tryz.underlying22 hi hz0 hz1 hz2 rfl (by decide) v n xs hown a ts.length cap cs hC.len hc hC.one (by unfold maxLen; omega) (by omega) hbase
  by_cases hne : ts = []
  · subst hne
    cases ad with
    | none => exact ⟨[], v, w, CsT.nil, append_none v n base cap xs ty w hown, by simpa using hown, World.grownBy.refl w _⟩
    | some a =>
      obtain ⟨v', w', h1, h2, h3, _⟩ := own a [] CsT.nil (fun j u h => by simp at h)
      exact ⟨[], v', w', CsT.nil, h1, h2, h3⟩
  · obtain ⟨bl, off, rfl, _, hM⟩ := hm hne
    obtain ⟨cs, hC, hc⟩ := memSL_cells ts bl off hM
    obtain ⟨v', w', h1, h2, h3, _⟩ := own ⟨bl, off, none⟩ cs hC (fun j u h => by rw [addr_add]; exact hc j u h)
    exact ⟨cs, v', w', hC, h1, h2, h3⟩

theorem wpList_append_tests {ops : Array Oper} {rest : List Oper} {o : Oper} {a : Act} {w : World} {Q : Exit → Act → World → Prop} (hgd : o.guard = none) (s x : Operand)
    (ho : o.op = .call { callee := .builtin .append, args := #[s, x], argTypes := #[22, 22] })
    (B : Nat) (ts : List TS) (xv v : Value) (n base : Nat) (xs : List Value) (hs : a.eval s = v) (hx : a.eval x = xv) (hown : w.ownsRow base 35 16 v n xs) (hS : SlT B w ts xv) (h63 : n + ts.length ≤ 3000000) (hbase : base ≤ w.heap.size)
    (h : ∀ cs v' w', CsT B w ts cs → w'.ownsRow base 35 16 v' (n + ts.length) (xs ++ cs) → w.grownBy w' v.ownBlock → wpList Tryz.prog ops Q rest (a.put o.dst v') w') : wpList Tryz.prog ops Q (o :: rest) a w := by
  obtain ⟨cs, v', w', h1, hr, h2, h3⟩ := run_append_tests B ts xv v n base xs o.type w hown hS h63 hbase
  refine wpList_plain hgd fun K hK => ?_
  unfold Oper.wp execOp
  simp only [ho, resolve, invoke, builtin, Sem.run_bind, Sem.run_pure, Result.andThen_ok, List.map_toArray, List.map_cons, List.map_nil, hs, hx, hr]
  exact hK _ _ (h cs v' w' h1 h2 h3)

/-- a row of tests of its own is a list of tests -/
theorem slT_own {base : Nat} {w : World} {v : Value} {ts : List TS} {cs : List Value} (hown : w.ownsRow base 35 16 v ts.length cs) (hC : CsT w.heap.size w ts cs) (hl : ts.length ≤ 9223372036854775807) : SlT w.heap.size w ts v := by
  refine ⟨hl, ?_⟩
  rcases hown.2 with ⟨rfl, hz⟩ | ⟨g, cap, cur, rfl, _, hgb, r1, r2, r3, r4⟩
  · exact ⟨none, 0, by rw [hz], fun hne => absurd (List.eq_nil_of_length_eq_zero hz) hne⟩
  · refine ⟨_, cap, rfl, fun _ => ⟨g, 0, rfl, (Array.getElem?_eq_some_iff.1 hgb).1, memSL_of ts 0 fun i T hi => ?_⟩⟩
    obtain ⟨q, h1, h2, h3⟩ := hC.mem i T hi
    refine ⟨q, ⟨h1, fun j u hj => ?_⟩, h3⟩
    have hjl : j < q.size := (Array.getElem?_eq_some_iff.1 hj).1
    have hil : i < ts.length := (List.getElem?_eq_some_iff.1 hi).1
    have := h2 j u hj
    rw [← r4, List.getElem?_take_of_lt (by omega)] at this
    simp only [World.cell?, hgb]
    simpa using this
end Go.Proofs.YtdkgapapdjefdaaGreatDoor

/- PointsMore: the law's walk. -/
namespace Go.Proofs.YtdkgapapdjefdaaGreatDoor
open Go.RowKit Go.Sort

set_option maxRecDepth 100000 in
set_option maxHeartbeats 8000000 in
theorem more_walk (kind : Int) (l : List TS) (lv : Value) (m : List TS) (mv : Value) (v : Tree) (qv : Array Value) (u : Tree) (qu : Array Value) (B : Nat) (w : World) (hB : B ≤ w.heap.size) (hl : SlT B w l lv) (hm : SlT B w m mv) (hv : Mem B w v qv) (hu : Mem B w u qu) (hT : TabsIn B w) (hn : l.length + m.length ≤ 3000000) :
    Calls Tryz.prog 5 #[.int .i64 kind, lv, mv, .agg qv, .agg qu] w fun e w' => e = .returned (.bool true) ∧ Below w.heap.size w w' := by
  have AL := hide (fun wx (hb : Below w.heap.size w wx) => alive9_any B wx (Nat.le_trans hB hb.size) (hT.below (hb.mono hB)))
  have LA := hide (fun (a : Value) (B' : Nat) wx (hb : Below w.heap.size w wx) (h1 : B ≤ B') (h2 : B' ≤ wx.heap.size) (hS : SlT B' wx (l ++ m) a) => And.intro (like_any kind (l ++ m) a v qv B' wx h2 hS (Mem.mono h1 (Mem.below (hb.mono hB) hv)) ((hT.below (hb.mono hB)).mono h1)) (like_any kind (l ++ m) a u qu B' wx h2 hS (Mem.mono h1 (Mem.below (hb.mono hB) hu)) ((hT.below (hb.mono hB)).mono h1)))
  have LB := hide (fun wx (hb : Below w.heap.size w wx) => And.intro (like_any kind l lv v qv B wx (Nat.le_trans hB hb.size) (hl.below (hb.mono hB)) (Mem.below (hb.mono hB) hv) (hT.below (hb.mono hB))) (like_any kind l lv u qu B wx (Nat.le_trans hB hb.size) (hl.below (hb.mono hB)) (Mem.below (hb.mono hB) hu) (hT.below (hb.mono hB))))
  have MP := hide (more_plain (kind := kind) (l := l) (m := m) (v := v) (u := u))
  have SL := hide (fun wx (hb : Below w.heap.size w wx) => And.intro (hl.below (hb.mono hB)) (hm.below (hb.mono hB)))
  obtain ⟨P1, hP1⟩ : ∃ p, p = likeF kind (l ++ m) v := ⟨_, rfl⟩
  obtain ⟨P2, hP2⟩ : ∃ p, p = likeF kind (l ++ m) u := ⟨_, rfl⟩
  obtain ⟨P3, hP3⟩ : ∃ p, p = likeF kind l v := ⟨_, rfl⟩
  obtain ⟨P4, hP4⟩ : ∃ p, p = likeF kind l u := ⟨_, rfl⟩
  rw [← hP1, ← hP2, ← hP3, ← hP4] at MP
  rw [← hP1, ← hP2] at LA
  rw [← hP3, ← hP4] at LB
  clear hP1 hP2 hP3 hP4
  obtain ⟨a1, e1⟩ := P1
  obtain ⟨a2, e2⟩ := P2
  obtain ⟨a3, e3⟩ := P3
  obtain ⟨a4, e4⟩ := P4
  simp only at MP LA LB
  obtain ⟨k, y, c, x, t, ks⟩ := v
  rw [Mem] at hv
  obtain ⟨_, _, ad, vc, rfl, _⟩ := hv
  obtain ⟨k', y', c', x', t', ks'⟩ := u
  rw [Mem] at hu
  obtain ⟨_, _, ad', vc', rfl, _⟩ := hu
  clear hT hl hm
  go_enter Tryz.func5, Tryz.ntmps5
  go_wp2_with fail
  have hba := bv (vbelow_new w (.cells #[.int .i64 k, .bool y, .int .i64 c, .int .i64 x, .string t, .slice ad ks.length vc] 27)) (vbelow_new _ (.cells #[.int .i64 k', .bool y', .int .i64 c', .int .i64 x', .string t', .slice ad' ks'.length vc'] 27))
  have X0 := (B6.new w 27 (.int .i64 k) (.bool y) (.int .i64 c) (.int .i64 x) (.string t) (.slice ad ks.length vc)).keep (vbelow_new _ (.cells #[.int .i64 k', .bool y', .int .i64 c', .int .i64 x', .string t', .slice ad' ks'.length vc'] 27))
  have Y0 := B6.new (w.alloc (.cells #[.int .i64 k, .bool y, .int .i64 c, .int .i64 x, .string t, .slice ad ks.length vc] 27)) 27 (.int .i64 k') (.bool y') (.int .i64 c') (.int .i64 x') (.string t') (.slice ad' ks'.length vc')
  rw [show (w.alloc (.cells #[.int .i64 k, .bool y, .int .i64 c, .int .i64 x, .string t, .slice ad ks.length vc] 27)).heap.size = w.heap.size + 1 by simp] at Y0
  refine (unhide AL _ hba).mono ?_
  rintro e w1 ⟨rfl, hb1⟩
  have HB1 := hide (bv hba hb1)
  have X1 := hide (X0.keep hb1)
  have Y1 := hide (Y0.keep hb1)
  have hz1 : w.heap.size ≤ w1.heap.size := (unhide HB1).size
  clear hba hb1 X0 Y0 AL
  have O0 := hide (own_new9 (w1 := w1) (base := w1.heap.size) (e := 35) (Nat.le_refl _) #[] 16 0 rfl (by unfold maxLen; omega))
  go_wp2_with (at_builtin; refine wpList_append_tests rfl _ _ rfl B l _ _ _ w1.heap.size _ rfl rfl (unhide O0) ?c1 ?c2 ?c3 ?_)
  case c1 => exact (unhide SL _ (bv (unhide HB1) (vbelow_new w1 _))).1
  case c2 => omega
  case c3 => simp
  intro cs1 v2 w2 hC1 hown1 hg1
  have b12 := hide (own_grown9 (unhide O0) (vbelow_new w1 _) hg1 (Nat.le_refl _) (by simp))
  have C1 := hide (hC1.below (own_grown9 (unhide O0) (Below.refl B _) hg1 (by omega) (by simp; omega)))
  have O1 : Hid (w2.ownsRow w1.heap.size 35 16 v2 l.length cs1) := hide (by simpa using hown1)
  clear hC1 hown1 hg1 O0
  have hz2 : w1.heap.size ≤ w2.heap.size := (unhide b12).size
  go_wp2_with (at_builtin; refine wpList_append_tests rfl _ _ rfl B m _ _ _ w1.heap.size _ rfl rfl (unhide O1) ?c1 ?c2 ?c3 ?_)
  case c1 => exact (unhide SL _ (bv (unhide HB1) (unhide b12))).2
  case c2 => omega
  case c3 => omega
  intro cs2 v3 w3 hC2 hown2 hg2
  have b13 := own_grown9 (unhide O1) (unhide b12) hg2 (Nat.le_refl _) (by omega)
  have b23 := own_grown9 (unhide O1) (Below.refl B _) hg2 (by omega) (by omega)
  have hz3 : w1.heap.size ≤ w3.heap.size := b13.size
  have C2 := (((unhide C1).below b23).app (hC2.below b23)).mono (B' := w3.heap.size) (by omega)
  have S3 := hide (slT_own (ts := l ++ m) (by rw [List.length_append]; exact hown2) C2 (by rw [List.length_append]; omega))
  have HB3 := hide (bv (unhide HB1) b13)
  have X3 := hide ((unhide X1).keep b13)
  have Y3 := hide ((unhide Y1).keep b13)
  clear hC2 hown2 hg2 b13 b23 C2 C1 O1 X1 Y1 SL HB1 b12 hz1 hz2 hz3
  have hz4 : B ≤ w3.heap.size := Nat.le_trans hB (unhide HB3).size
  have x0 := (unhide X3).c0
  have x1 := (unhide X3).c1
  have x2 := (unhide X3).c2
  have x3 := (unhide X3).c3
  have x4 := (unhide X3).c4
  have x5 := (unhide X3).c5
  have lx := (unhide X3).low
  go_wp2_with fail
  refine (unhide LA _ w3.heap.size _ (unhide HB3) hz4 (Nat.le_refl _) (unhide S3)).1.mono ?_
  rintro e w4 ⟨rfl, hb4⟩
  have HB4 := hide (bv (unhide HB3) hb4)
  have X4 := hide ((unhide X3).keep hb4)
  have Y4 := hide ((unhide Y3).keep hb4)
  have S4 := hide ((unhide S3).below hb4)
  have hz5 : w3.heap.size ≤ w4.heap.size := hb4.size
  clear hb4 x0 x1 x2 x3 x4 x5 lx X3 Y3 S3 HB3
  have x0 := (unhide Y4).c0
  have x1 := (unhide Y4).c1
  have x2 := (unhide Y4).c2
  have x3 := (unhide Y4).c3
  have x4 := (unhide Y4).c4
  have x5 := (unhide Y4).c5
  have lx := (unhide Y4).low
  go_wp2_with fail
  refine (unhide LA _ w3.heap.size _ (unhide HB4) hz4 hz5 (unhide S4)).2.mono ?_
  rintro e w5 ⟨rfl, hb5⟩
  have HB5 := hide (bv (unhide HB4) hb5)
  have X5 := hide ((unhide X4).keep hb5)
  have Y5 := hide ((unhide Y4).keep hb5)
  clear hb5 x0 x1 x2 x3 x4 x5 lx X4 Y4 S4 HB4 LA hz4 hz5
  by_cases h1 : e1 = 0
  · by_cases h2 : e2 = 0
    · by_cases h3 : a1 = a2
      · obtain ⟨j, hj1, hj2⟩ := unhide MP h1 h2 h3
        simp only [Prod.mk.injEq] at hj1 hj2
        obtain ⟨rfl, rfl⟩ := hj1
        obtain ⟨rfl, rfl⟩ := hj2
        subst h1 h2 h3
        have x0 := (unhide X5).c0
        have x1 := (unhide X5).c1
        have x2 := (unhide X5).c2
        have x3 := (unhide X5).c3
        have x4 := (unhide X5).c4
        have x5 := (unhide X5).c5
        have lx := (unhide X5).low
        clear MP
        go_wp2_with fail
        refine (unhide LB _ (unhide HB5)).1.mono ?_
        rintro e w6 ⟨rfl, hb6⟩
        have HB6 := hide (bv (unhide HB5) hb6)
        have Y6 := hide ((unhide Y5).keep hb6)
        clear hb6 x0 x1 x2 x3 x4 x5 lx X5 Y5 HB5
        have x0 := (unhide Y6).c0
        have x1 := (unhide Y6).c1
        have x2 := (unhide Y6).c2
        have x3 := (unhide Y6).c3
        have x4 := (unhide Y6).c4
        have x5 := (unhide Y6).c5
        have lx := (unhide Y6).low
        go_wp2_with fail
        refine (unhide LB _ (unhide HB6)).2.mono ?_
        rintro e w7 ⟨rfl, hb7⟩
        have HB7 := hide (bv (unhide HB6) hb7)
        clear hb7 x0 x1 x2 x3 x4 x5 lx Y6 HB6 LB
        go_wp2
        go_ret
        exact ⟨rfl, unhide HB7⟩
      · have h3' : (a1 != a2) = true := by simp [h3]
        subst h1 h2
        clear h3 MP LB
        go_wp2
        go_ret
        exact ⟨rfl, unhide HB5⟩
    · have h2' : (e2 != 0) = true := by simp [h2]
      subst h1
      clear h2 MP LB
      go_wp2
      go_ret
      exact ⟨rfl, unhide HB5⟩
  · have h1' : (e1 != 0) = true := by simp [h1]
    clear h1 MP LB
    go_wp2
    go_ret
    exact ⟨rfl, unhide HB5⟩
end Go.Proofs.YtdkgapapdjefdaaGreatDoor
