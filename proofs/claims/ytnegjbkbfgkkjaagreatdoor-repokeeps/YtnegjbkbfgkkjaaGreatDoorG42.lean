/- Walks: a name is dropped. -/
import Derived.Test.YtnegjbkbfgkkjaaGreatDoorG41
import Derived.BigRegion
namespace Go.Proofs.YtnegjbkbfgkkjaaGreatDoor
open Go.RowKit Go.MapKept

theorem own_slice12 {w : World} {B k n : Nat} {e : TypeId} {v : Value} {xs : List Value} (h : w.ownsRow B e k v n xs) : ∃ a c, v = .slice a n c := by
  rcases h.2 with ⟨e, e0⟩ | ⟨g, cap, cur, e, _⟩
  · exact ⟨none, 0, by rw [e, e0]⟩
  · exact ⟨_, _, e⟩
theorem Bx2.grown12 {w w' : World} {b : Nat} {u v : Value} {r : Option Nat} (h : Bx2 w b u v) (hb : w.grownBy w' r) (ne : some b ≠ r) : Bx2 w' b u v := by
  have bl := hb.block b h.low ne
  have c : ∀ o, w'.cell? ⟨b, o, none⟩ = w.cell? ⟨b, o, none⟩ := fun o => World.cell?_of_block (a := ⟨b, o, none⟩) bl
  have f : ∀ o, w'.frozen? ⟨b, o, none⟩ = w.frozen? ⟨b, o, none⟩ := fun o => World.frozen?_of_block (a := ⟨b, o, none⟩) bl
  exact ⟨Nat.lt_of_lt_of_le h.low hb.size, by rw [c]; exact h.at0, by rw [c]; exact h.at1, by rw [f]; exact h.th0, by rw [f]; exact h.th1⟩
/-- one entry goes -/
theorem EW.drop1 {B L : Nat} {w w' : World} {ps : List (Rp.Ent ByteArray TbT × Value)} {v u : Value} {i : Nat} (h : EW B L w ps v) (hBL : B ≤ L) (hL : L ≤ w.heap.size) (hi : i < ps.length) (hg : w.grownBy w' v.ownBlock) (ho : w'.ownsRow L 54 4 u (ps.length - 1) ((ps.map ec).take i ++ (ps.map ec).drop (i + 1)).flatten) (hat : u.ownBlock = v.ownBlock) :
    EW B L w' (ps.take i ++ ps.drop (i + 1)) u := by
  have hm : ∀ p ∈ ps.take i ++ ps.drop (i + 1), p ∈ ps := fun p hp => by
    rcases List.mem_append.1 hp with q | q
    · exact List.mem_of_mem_take q
    · exact List.mem_of_mem_drop q
  refine h.row hBL hL hg ?_ (.inl hat) (fun p hp => .inl (hm p hp)) ?_
  · rw [List.map_append, List.map_take, List.map_drop, List.length_append, List.length_take, List.length_drop, show min i ps.length + (ps.length - (i + 1)) = ps.length - 1 by omega]
    exact ho
  · have hs : (ps.take i ++ ps.drop (i + 1)).Sublist ps := by
      rw [← List.eraseIdx_eq_take_drop_succ]
      exact List.eraseIdx_sublist ps i
    exact h.two.sublist hs

set_option maxRecDepth 100000 in
set_option maxHeartbeats 8000000 in
theorem dropped_any {B L : Nat} (ps : List (Rp.Ent ByteArray TbT × Value)) (v : Value) (n : ByteArray) (w : World) (hBL : B ≤ L) (hL : L ≤ w.heap.size) (h : EW B L w ps v) (hr : Rise (ps.map Prod.fst)) (hl : ps.length ≤ 90) :
    Calls Tryz.prog 36 #[v, .string n] w fun e w' => ∃ u er vr, e = .returned (.tuple #[u, .agg #[.int .i64 er, .int .i64 vr]]) ∧ DoneP B L ps v w (dropF (ps.map Prod.fst) n) u er vr w' := by
  obtain ⟨w1, hw1⟩ : ∃ w1, w1 = w.alloc (.cells #[.int .i64 0, .int .i64 0] 39) := ⟨_, rfl⟩
  have b1 : Below w.heap.size w w1 := by rw [hw1]; exact vbelow_new _ _
  have R1 : Bx2 w1 w.heap.size (.int .i64 0) (.int .i64 0) := by rw [hw1]; exact Bx2.new _ _ _ _
  have hB : B ≤ w.heap.size := Nat.le_trans hBL hL
  have E1 := h.below hB b1
  have hB1 : B ≤ w1.heap.size := Nat.le_trans hB b1.size
  have EA := hide (entryAt_any (B := B) (ps.map Prod.fst) v n w1 hB1 E1.ls.1 (by simp; omega) (hr.mono n))
  have sz1 : w1.heap.size = w.heap.size + 1 := by rw [hw1]; simp
  have HS := hide sz1
  have HO := hide (fun b q => (h.lt b q).2)
  have HE1 := hide E1
  have HR1 := hide R1
  have HB1 := hide b1
  have HR := hide hr
  have RFD := hide (fun k wx => refused_any k wx)
  obtain ⟨va, vc, hv⟩ := h.slice
  have HV := hide hv
  subst hv
  clear b1 R1 E1 sz1 hr h
  go_enter Tryz.func36, Tryz.ntmps36
  go_upto_region 1 with fail
  rw [← hw1]
  clear hw1
  go_wp2_with fail
  refine (unhide EA).mono ?_
  rintro e w2 ⟨i, hat, rfl, hb2⟩
  have HAT := hide hat
  have E2 := (unhide HE1).below hB1 hb2
  have HE2 := hide E2
  have R2 := (unhide HR1).keep hb2 (unhide HR1).low
  have HB2 := hide (below_via (unhide HB1) hb2)
  have HZ := hide hb2.size
  obtain ⟨F, hF⟩ : ∃ F, F = foundN (ps.map Prod.fst) n i := ⟨_, rfl⟩
  rw [← hF]
  have HF := hide hF
  have HR2 := hide R2
  have r0 := R2.at0
  have r1 := R2.at1
  have f0 := R2.th0
  have f1 := R2.th1
  have rl := R2.low
  clear hat hb2 EA hF HE1 HR1 HB1 R2
  cases F with
  | false =>
    clear E2
    go_wp2_with fail
    refine (unhide RFD _ _).mono ?_
    rintro e w3 ⟨rfl, hb3⟩
    have R3 := (unhide HR2).keep hb3 rl
    have HB3 := hide (below_via (unhide HB2) hb3)
    have HE3 := hide ((unhide HE2).below (Nat.le_trans hB (unhide HB2).size) hb3)
    have q0 := R3.at0
    have q1 := R3.at1
    have p0 := R3.th0
    have p1 := R3.th1
    have HZ3 := hide (Nat.le_trans (unhide HZ) hb3.size)
    clear hb3 R3 r0 r1 f0 f1
    go_wp2
    refine bodyPost_ret (v := .tuple #[.slice va ps.length vc, .agg #[.int .i64 6, .int .i64 0]]) (by simp [results, Tryz.results36, go_sem, q0, q1]) rfl ⟨_, _, _, rfl, ?_⟩
    have HN : Rp.findE (ps.map Prod.fst) n = none := find_lost (unhide HR) (unhide HAT) (unhide HF).symm
    have e : dropF (ps.map Prod.fst) n = (ps.map Prod.fst, ⟨6, 0⟩) := by unfold dropF; rw [HN]
    rw [e]
    exact DoneP.fin (n1 := w1.heap.size) (unhide HE3) (OutP.of_below (unhide HB3)) (unhide HO) (fun b q => .inl q) (Nat.le_refl _) (by rw [unhide HS]; omega) hB rfl _ _ rfl rfl
  | true =>
    obtain ⟨x, hx, hxn⟩ := found_yes (unhide HF).symm
    have HFE := hide ((find_found (unhide HAT) (unhide HF).symm).trans hx)
    have HDF := hide (del_found (unhide HR) (unhide HF).symm)
    have hil : i < ps.length := by have := (List.getElem?_eq_some_iff.1 hx).1; simpa using this
    have DEL := delete_Entry L ps.length i _ (ps.map ec).flatten w2 E2.own E2.one hil (by omega) (i + 1) rfl
    rw [show ((i + 1 : Nat) : Int) = (i : Int) + 1 from by omega, flat_del (ps.map ec) i ec_width] at DEL
    have HDEL := hide DEL
    have HIL := hide hil
    have hw : IntKind.i64.wrap ((i : Int) + 1) = (i : Int) + 1 := by rw [IntKind.wrap_i64]; omega
    clear E2 DEL hx hxn hil
    go_wp2_with fail
    refine (unhide HDEL).mono ?_
    rintro e w3 ⟨u, rfl, o3, g3, a3⟩
    have hne : ∀ b, (Value.slice va ps.length vc).ownBlock = some b → b ≠ w.heap.size := fun b q e => by have := (unhide HO) b (.inl q); omega
    have R3 := (unhide HR2).grown12 (w' := w3) g3 (fun e => hne _ e.symm rfl)
    have q0 := R3.at0
    have q1 := R3.at1
    have p0 := R3.th0
    have p1 := R3.th1
    obtain ⟨ua, uc, hu⟩ := own_slice12 o3
    subst hu
    have HE3 := hide ((unhide HE2).drop1 hBL (Nat.le_trans hL (unhide HB2).size) (unhide HIL) g3 o3 a3)
    have HO3 := hide (And.intro (OutP.of_grown (O := Ob ps (.slice va ps.length vc)) g3 fun b e _ => .inl e) a3)
    clear hne R3 r0 r1 f0 f1 o3 g3 a3 HDEL
    go_wp2
    refine bodyPost_ret (v := .tuple #[.slice ua (ps.length - 1) uc, .agg #[.int .i64 0, .int .i64 0]]) (by simp [results, Tryz.results36, go_sem, q0, q1]) rfl ⟨_, _, _, rfl, ?_⟩
    have e : dropF (ps.map Prod.fst) n = ((ps.map Prod.fst).take i ++ (ps.map Prod.fst).drop (i + 1), ⟨0, 0⟩) := by unfold dropF; rw [unhide HFE]; simp only []; rw [unhide HDF]
    rw [e]
    obtain ⟨O3, A3⟩ := unhide HO3
    refine DoneP.fin (n1 := w1.heap.size) (unhide HE3) ((OutP.of_below (O := Ob ps (.slice va ps.length vc)) (unhide HB2)).trans O3 fun b _ q => q) (unhide HO) (fun b q => ?_) (Nat.le_refl _) (by rw [unhide HS]; omega) hB (by rw [List.map_append, List.map_take, List.map_drop]) _ _ rfl rfl
    left
    rcases q with q | ⟨p, hp, q⟩
    · exact .inl (A3 ▸ q)
    · refine .inr ⟨p, ?_, q⟩
      rcases List.mem_append.1 hp with r | r
      · exact List.mem_of_mem_take r
      · exact List.mem_of_mem_drop r
end Go.Proofs.YtnegjbkbfgkkjaaGreatDoor

/- Entries at work: one more version, one more entry. -/
namespace Go.Proofs.YtnegjbkbfgkkjaaGreatDoor
open Go.RowKit Go.MapKept

/-- the world in which an entry's four cells are stored -/
theorem EW.next {B L : Nat} {w w6 : World} {ps : List (Rp.Ent ByteArray TbT × Value)} {g off n cap i : Nat} {x : Rp.Ent ByteArray TbT} {kv kv' : Value} {t : TbT} {css : List (List Value)} (h : EW B L w ps (.slice (some ⟨g, off, none⟩) n cap)) (hBL : B ≤ L) (hL : L ≤ w.heap.size) (h0 : off = 0) (hp : ps[i]? = some (x, kv))
    (rows : Rows12 6 (VeM B w6) (Rp.pushed x.kept ⟨x.next, t⟩ 3) css) (own : w6.ownsRow L 56 6 kv' (Rp.pushed x.kept ⟨x.next, t⟩ 3).length css.flatten) (hat : kv'.ownBlock = kv.ownBlock ∨ ∃ b, kv'.ownBlock = some b ∧ w.heap.size ≤ b) (hg : w.grownBy w6 kv.ownBlock) :
    EW B L ((((w6.setCell ⟨g, off + i * 4, none⟩ (.string x.name)).setCell ⟨g, off + i * 4 + 1, none⟩ (.int .i64 (x.next + 1))).setCell ⟨g, off + i * 4 + 2, none⟩ (.int .i64 x.next)).setCell ⟨g, off + i * 4 + 3, none⟩ kv') (ps.set i (Rp.withNext x t, kv')) (.slice (some ⟨g, off, none⟩) n cap)
    ∧ OutP (fun b => b = g ∨ kv.ownBlock = some b) w ((((w6.setCell ⟨g, off + i * 4, none⟩ (.string x.name)).setCell ⟨g, off + i * 4 + 1, none⟩ (.int .i64 (x.next + 1))).setCell ⟨g, off + i * 4 + 2, none⟩ (.int .i64 x.next)).setCell ⟨g, off + i * 4 + 3, none⟩ kv') := by
  subst h0
  rw [Nat.zero_add]
  have hm := List.mem_of_getElem? hp
  have hi := (List.getElem?_eq_some_iff.1 hp).1
  obtain ⟨a, c, ev⟩ := h.slice
  obtain rfl : n = ps.length := by simp at ev; exact ev.2.1
  have hgl := own_ltT h.own g rfl
  have hkg : ∀ b, kv.ownBlock = some b → b ≠ g := fun b hb e => h.apart _ hm b hb (by rw [e]; rfl)
  have hkl := (h.kept _ hm).lt
  simp only at hkl
  have own6 := own_sameT h.own fun b hb => hg.block b (by have : g = b := Option.some.inj hb; omega) fun e => hkg b e.symm (Option.some.inj hb).symm
  obtain ⟨o7, g7⟩ := set4_own own6 hi (.string x.name) (.int .i64 (x.next + 1)) (.int .i64 x.next) kv'
  unfold set4 at o7 g7
  have hk'g : ∀ b, kv'.ownBlock = some b → b ≠ g := fun b hb => by
    rcases hat with q | ⟨d, q, hd⟩
    · exact hkg b (q ▸ hb)
    · rw [q] at hb
      have := Option.some.inj hb
      omega
  obtain ⟨w7, hw7⟩ : ∃ w7, w7 = ((((w6.setCell ⟨g, i * 4, none⟩ (.string x.name)).setCell ⟨g, i * 4 + 1, none⟩ (.int .i64 (x.next + 1))).setCell ⟨g, i * 4 + 2, none⟩ (.int .i64 x.next)).setCell ⟨g, i * 4 + 3, none⟩ kv') := ⟨_, rfl⟩
  rw [← hw7] at o7 g7 ⊢
  have ho : OutP (fun b => b = g ∨ kv.ownBlock = some b) w w7 := (OutP.of_grown (O := fun b => b = g ∨ kv.ownBlock = some b) hg fun b e _ => .inr e).trans (OutP.of_grown (O := fun b => b = g) g7 fun b e _ => (Option.some.inj e).symm) fun b _ q => .inl q
  refine ⟨h.put hBL hL hp (ho.imp fun b _ q => ?_) (p' := (Rp.withNext x t, kv')) o7 ?_ hat, ho⟩
  · rcases q with q | q
    · exact .inl (by rw [q]; rfl)
    · exact .inr q
  · have hb : Below B w6 w7 := ⟨g7.os, g7.tape, g7.output, g7.size, fun b hb => g7.block b (by have := hg.size; omega) fun e => by have := Option.some.inj e; omega⟩
    have hko := own_ltT own
    exact ⟨css, rows.imp fun y cs q => VeM.below hb q, own_sameT own fun b q => g7.block b (hko b q).2 fun e => hk'g b q (Option.some.inj e)⟩
/-- one entry more, without versions -/
theorem EW.ins {B L : Nat} {w w' : World} {ps : List (Rp.Ent ByteArray TbT × Value)} {v u : Value} {i : Nat} {e0 : Rp.Ent ByteArray TbT} (h : EW B L w ps v) (hBL : B ≤ L) (hL : L ≤ w.heap.size) (he : e0.kept = []) (hg : w.grownBy w' v.ownBlock)
    (ho : w'.ownsRow L 54 4 u (ps.length + 1) ((ps.map ec).flatten.take (i * 4) ++ (ec (e0, .slice none 0 0) ++ (ps.map ec).flatten.drop (i * 4)))) (hat : u.ownBlock = v.ownBlock ∨ ∃ b, u.ownBlock = some b ∧ w.heap.size ≤ b) (hi : i ≤ ps.length) :
    EW B L w' (ps.take i ++ (e0, .slice none 0 0) :: ps.drop i) u := by
  refine h.row hBL hL hg ?_ hat (fun p hp => ?_) ?_
  · rw [flat_take _ i ec_width, flat_drop _ i ec_width] at ho
    rw [List.map_append, List.map_cons, List.map_take, List.map_drop, List.flatten_append, List.flatten_cons, List.length_append, List.length_take, List.length_cons, List.length_drop, show min i ps.length + (ps.length - i + 1) = ps.length + 1 by omega]
    exact ho
  · rcases List.mem_append.1 hp with q | q
    · exact .inl (List.mem_of_mem_take q)
    · rcases List.mem_cons.1 q with rfl | q
      · exact .inr ⟨he, rfl⟩
      · exact .inl (List.mem_of_mem_drop q)
  · have h2 : (ps.take i ++ ps.drop i).Pairwise (fun p q => ∀ b, p.2.ownBlock = some b → q.2.ownBlock ≠ some b) := by rw [List.take_append_drop]; exact h.two
    rw [List.pairwise_append] at h2 ⊢
    obtain ⟨h3, h4, h5⟩ := h2
    refine ⟨h3, List.pairwise_cons.2 ⟨fun q _ b hb => (by cases hb), h4⟩, fun a ha b hb => ?_⟩
    rcases List.mem_cons.1 hb with rfl | q
    · exact fun b _ e => by cases e
    · exact h5 a ha b q
theorem ins_at {α : Type} (l : List α) (x : α) {i : Nat} (hi : i ≤ l.length) : (l.take i ++ x :: l.drop i)[i]? = some x := by
  rw [List.getElem?_append_right (by rw [List.length_take]; omega), List.length_take, show i - min i l.length = 0 by omega]
  rfl
theorem ins_set {α : Type} (l : List α) (x y : α) {i : Nat} (hi : i ≤ l.length) : (l.take i ++ x :: l.drop i).set i y = l.take i ++ y :: l.drop i := by
  rw [List.set_append_right _ _ (by rw [List.length_take]; omega), List.length_take, show i - min i l.length = 0 by omega]
  rfl
theorem Ob.mono {ps : List (Rp.Ent ByteArray TbT × Value)} {v u : Value} {b : Nat} (h : Ob ps u b) (hv : u.ownBlock = some b → v.ownBlock = some b) : Ob ps v b := by
  rcases h with q | q
  · exact .inl (hv q)
  · exact .inr q
theorem Bx2.out12 {O : Nat → Prop} {w w' : World} {b : Nat} {u v : Value} (h : Bx2 w b u v) (ho : OutP O w w') (hn : ¬ O b) : Bx2 w' b u v := by
  have bl := ho.block b h.low hn
  have c : ∀ o, w'.cell? ⟨b, o, none⟩ = w.cell? ⟨b, o, none⟩ := fun o => World.cell?_of_block (a := ⟨b, o, none⟩) bl
  have f : ∀ o, w'.frozen? ⟨b, o, none⟩ = w.frozen? ⟨b, o, none⟩ := fun o => World.frozen?_of_block (a := ⟨b, o, none⟩) bl
  exact ⟨Nat.lt_of_lt_of_le h.low ho.size, by rw [c]; exact h.at0, by rw [c]; exact h.at1, by rw [f]; exact h.th0, by rw [f]; exact h.th1⟩
theorem V5.grown12 {w w' : World} {b : Nat} {v0 v1 v2 v3 v4 : Value} {r : Option Nat} (h : V5 w b v0 v1 v2 v3 v4) (hb : w.grownBy w' r) (ne : some b ≠ r) : V5 w' b v0 v1 v2 v3 v4 := by
  have bl := hb.block b h.low ne
  have c : ∀ o, w'.cell? ⟨b, o, none⟩ = w.cell? ⟨b, o, none⟩ := fun o => World.cell?_of_block (a := ⟨b, o, none⟩) bl
  refine ⟨Nat.lt_of_lt_of_le h.low hb.size, ?_⟩
  simp only [c]
  exact h.tell
theorem EW.thaw {B L : Nat} {w : World} {ps : List (Rp.Ent ByteArray TbT × Value)} {g off n cap : Nat} (h : EW B L w ps (.slice (some ⟨g, off, none⟩) n cap)) (h0 : 0 < ps.length) : ∀ j, w.frozen? ⟨g, j, none⟩ = false := by
  obtain ⟨g', off', cap', _, ev, _, _, hz⟩ := h.place h0
  cases ev
  exact hz
/-- what is known behind withNext: the value, the entry's cells as they were, and the world once it is stored -/
theorem EW.nextP {B L : Nat} {w wx w6 : World} {ps : List (Rp.Ent ByteArray TbT × Value)} {g off n cap i : Nat} {x : Rp.Ent ByteArray TbT} {kv v : Value} {t : TbT} (h : EW B L w ps (.slice (some ⟨g, off, none⟩) n cap)) (hBL : B ≤ L) (hL : L ≤ w.heap.size) (h0 : off = 0) (hp : ps[i]? = some (x, kv)) (hx : Below w.heap.size w wx) (hP : NextP B L wx x.name x.next kv x.kept t v w6) :
    ∃ ka kn kc, v = .agg #[.string x.name, .int .i64 (x.next + 1), .int .i64 x.next, .slice ka kn kc]
      ∧ (w6.cell? ⟨g, off + i * 4, none⟩ = some (.string x.name) ∧ w6.cell? ⟨g, off + i * 4 + 1, none⟩ = some (.int .i64 x.next) ∧ w6.cell? ⟨g, off + i * 4 + 2, none⟩ = some (.int .i64 x.now) ∧ w6.cell? ⟨g, off + i * 4 + 3, none⟩ = some kv)
      ∧ (w6.frozen? ⟨g, off + i * 4, none⟩ = false ∧ w6.frozen? ⟨g, off + i * 4 + 1, none⟩ = false ∧ w6.frozen? ⟨g, off + i * 4 + 2, none⟩ = false ∧ w6.frozen? ⟨g, off + i * 4 + 3, none⟩ = false)
      ∧ Hid (EW B L ((((w6.setCell ⟨g, off + i * 4, none⟩ (.string x.name)).setCell ⟨g, off + i * 4 + 1, none⟩ (.int .i64 (x.next + 1))).setCell ⟨g, off + i * 4 + 2, none⟩ (.int .i64 x.next)).setCell ⟨g, off + i * 4 + 3, none⟩ (.slice ka kn kc)) (ps.set i (Rp.withNext x t, .slice ka kn kc)) (.slice (some ⟨g, off, none⟩) n cap)
        ∧ OutP (fun b => b = g ∨ kv.ownBlock = some b) w ((((w6.setCell ⟨g, off + i * 4, none⟩ (.string x.name)).setCell ⟨g, off + i * 4 + 1, none⟩ (.int .i64 (x.next + 1))).setCell ⟨g, off + i * 4 + 2, none⟩ (.int .i64 x.next)).setCell ⟨g, off + i * 4 + 3, none⟩ (.slice ka kn kc))
        ∧ ((Value.slice ka kn kc).ownBlock = kv.ownBlock ∨ ∃ b, (Value.slice ka kn kc).ownBlock = some b ∧ w.heap.size ≤ b)) := by
  have hm := List.mem_of_getElem? hp
  have hi := (List.getElem?_eq_some_iff.1 hp).1
  obtain ⟨kv', css, rfl, rows, own, hat⟩ := hP.tell
  obtain ⟨ka, kc, e⟩ := own_slice12 own
  have hg : w.grownBy w6 kv.ownBlock := gr_trans (gr_below hx _) hP.grown
  have hat' : kv'.ownBlock = kv.ownBlock ∨ ∃ b, kv'.ownBlock = some b ∧ w.heap.size ≤ b := by
    rcases hat with q | ⟨b, q, hb⟩
    · exact .inl q
    · exact .inr ⟨b, q, Nat.le_trans hx.size hb⟩
  have hgl := own_ltT h.own g rfl
  have bl : w6.heap[g]? = w.heap[g]? := hg.block g hgl.2 fun e => h.apart _ hm g e.symm rfl
  have c : ∀ o, w6.cell? ⟨g, o, none⟩ = w.cell? ⟨g, o, none⟩ := fun o => World.cell?_of_block (a := ⟨g, o, none⟩) bl
  have f : ∀ o, w6.frozen? ⟨g, o, none⟩ = w.frozen? ⟨g, o, none⟩ := fun o => World.frozen?_of_block (a := ⟨g, o, none⟩) bl
  obtain ⟨qa, qc, qe, c0, c1, c2, c3, _⟩ := h.at hp h0
  have th := h.thaw (by omega)
  have N := h.next hBL hL h0 hp rows own hat' hg
  subst e
  refine ⟨ka, _, kc, rfl, ⟨(c _).trans c0, (c _).trans c1, (c _).trans c2, ?_⟩, ⟨(f _).trans (th _), (f _).trans (th _), (f _).trans (th _), (f _).trans (th _)⟩, hide ⟨N.1, N.2, hat'⟩⟩
  rw [c, c3, qe]
end Go.Proofs.YtnegjbkbfgkkjaaGreatDoor

/- Walks: a table is deployed. (Written by gen_dq.py.) -/
namespace Go.Proofs.YtnegjbkbfgkkjaaGreatDoor
open Go.RowKit Go.MapKept

set_option maxRecDepth 100000 in
set_option maxHeartbeats 8000000 in
theorem deployed_any {B L : Nat} (ps : List (Rp.Ent ByteArray TbT × Value)) (v : Value) (t : TbT) (tc : Array Value) (w : World) (hBL : B ≤ L) (hL : L ≤ w.heap.size) (h : EW B L w ps v) (hr : Rise (ps.map Prod.fst)) (hl : ps.length ≤ 6) (hG : GdT B w) (ht : TbM B w t tc)
    (hn : ∀ e ∈ ps.map Prod.fst, -1000000000000000000 ≤ e.next ∧ e.next ≤ 1000000000000000000) (hk : ∀ e ∈ ps.map Prod.fst, e.kept.length ≤ 3) :
    Calls Tryz.prog 34 #[v, .agg tc] w fun e w' => ∃ u er vr, e = .returned (.tuple #[u, .agg #[.int .i64 er, .int .i64 vr]]) ∧ DoneP B L ps v w (deployF (ps.map Prod.fst) t) u er vr w' := by
  obtain ⟨ia, oa, ra, ic, oc, rc, rfl⟩ := ht.open
  obtain ⟨w1, hw1⟩ : ∃ w1, w1 = (w.alloc (.cells #[.string t.name, .int .i64 t.pol, .slice ia t.ins.length ic, .slice oa t.outs.length oc, .slice ra t.rules.length rc] 34)).alloc (.cells #[.int .i64 0, .int .i64 0] 39) := ⟨_, rfl⟩
  have b1 : Below w.heap.size w w1 := by rw [hw1]; exact below_via (vbelow_new _ _) (vbelow_new _ _)
  have R1 : Bx2 w1 (w.heap.size + 1) (.int .i64 0) (.int .i64 0) := by
    rw [hw1]
    have := Bx2.new (w.alloc (.cells #[.string t.name, .int .i64 t.pol, .slice ia t.ins.length ic, .slice oa t.outs.length oc, .slice ra t.rules.length rc] 34)) 39 (.int .i64 0) (.int .i64 0)
    simpa using this
  have T1 : V5 w1 w.heap.size (.string t.name) (.int .i64 t.pol) (.slice ia t.ins.length ic) (.slice oa t.outs.length oc) (.slice ra t.rules.length rc) := by
    rw [hw1]
    exact (V5.new w 34 (.string t.name) (.int .i64 t.pol) (.slice ia t.ins.length ic) (.slice oa t.outs.length oc) (.slice ra t.rules.length rc)).keep (vbelow_new _ _) (by simp)
  have hB : B ≤ w.heap.size := Nat.le_trans hBL hL
  have E1 := h.below hB b1
  have hB1 : B ≤ w1.heap.size := Nat.le_trans hB b1.size
  have sz1 : w1.heap.size = w.heap.size + 2 := by rw [hw1]; simp
  have TW := hide (tableWrong_any (B := B) t _ w1 hB1 (hG.keep (b1.mono hB)) (ht.below (b1.mono hB)))
  have HT := hide (ht.below (b1.mono hB))
  have HS := hide sz1
  have HO := hide (fun b q => (h.lt b q).2)
  have HE1 := hide E1
  have HR1 := hide R1
  have HT1 := hide T1
  have HB1 := hide b1
  have HR := hide hr
  have HN := hide hn
  have HK := hide hk
  have RFD := hide (fun k wx => refused_any k wx)
  have CNT := hide (fun s nx now a m c wx => counting_any s nx now a m c wx)
  obtain ⟨va, vc, hv⟩ := h.slice
  subst hv
  obtain ⟨t0, t1, t2, t3, t4⟩ := T1.tell
  obtain ⟨TE, hTE⟩ : ∃ TE, TE = tabW t := ⟨_, rfl⟩
  rw [← hTE] at TW
  have HTE := hide hTE
  clear b1 R1 E1 T1 sz1 hr h hG ht hn hk hTE
  go_enter Tryz.func34, Tryz.ntmps34
  go_upto_region 1 with fail
  rw [← hw1]
  clear hw1
  go_wp2_with fail
  refine (unhide TW).mono ?_
  rintro e w2 ⟨rfl, hb2⟩
  have T2 := (unhide HT1).keep hb2 (unhide HT1).low
  have R2 := (unhide HR1).keep hb2 (unhide HR1).low
  have HB2 := hide (below_via (unhide HB1) hb2)
  have E2 := (unhide HE1).below hB1 hb2
  have HE2 := hide E2
  have HT2 := hide T2
  have HR2 := hide R2
  have HM2 := hide ((unhide HT).below (hb2.mono hB1))
  have HZ := hide (Nat.le_trans (Nat.le_of_eq (unhide HS).symm) hb2.size)
  clear t0 t1 t2 t3 t4 TW HT1 HR1 HE1 HT
  by_cases h0 : TE = 0
  · subst h0
    have hB2 : B ≤ w2.heap.size := Nat.le_trans hB (unhide HB2).size
    have EA := hide (entryAt_any (B := B) (ps.map Prod.fst) (.slice va ps.length vc) t.name w2 hB2 E2.ls.1 (by simp; omega) ((unhide HR).mono t.name))
    obtain ⟨t0, t1, t2, t3, t4⟩ := T2.tell
    clear E2 T2 R2 hb2
    go_wp2_with fail
    refine (unhide EA).mono ?_
    rintro e w3 ⟨i, hat, rfl, hb3⟩
    have HAT := hide hat
    have T3 := (unhide HT2).keep hb3 (unhide HT2).low
    have R3 := (unhide HR2).keep hb3 (unhide HR2).low
    have HB3 := hide (below_via (unhide HB2) hb3)
    have E3 := (unhide HE2).below hB2 hb3
    have HM3 := hide ((unhide HM2).below (hb3.mono hB2))
    have HZ3 := hide (Nat.le_trans (unhide HZ) hb3.size)
    obtain ⟨F, hF⟩ : ∃ F, F = foundN (ps.map Prod.fst) t.name i := ⟨_, rfl⟩
    rw [← hF]
    have HF := hide hF
    have HT3 := hide T3
    have HR3 := hide R3
    have HE3 := hide E3
    have hB3 : B ≤ w3.heap.size := Nat.le_trans hB (unhide HB3).size
    clear t0 t1 t2 t3 t4 hat hb3 EA hF HE2 HT2 HR2 HM2
    cases F with
    | true =>
      obtain ⟨x, hx, hxn⟩ := found_yes (unhide HF).symm
      have hFE := (find_found (unhide HAT) (unhide HF).symm).trans hx
      obtain ⟨kv, hp⟩ := fst_at hx
      have hil := (List.getElem?_eq_some_iff.1 hp).1
      obtain ⟨g, off, cap, h00, hv, hLg, hgl, _⟩ := E3.place (by omega)
      cases hv
      have HRX := hide R3
      obtain ⟨t0, t1, t2, t3, t4⟩ := T3.tell
      obtain ⟨r0, r1, f0, f1, rl⟩ := And.intro R3.at0 (And.intro R3.at1 (And.intro R3.th0 (And.intro R3.th1 R3.low)))
      obtain ⟨QS, hQS⟩ : ∃ QS, QS = ps := ⟨_, rfl⟩
      have PI : QS[i]? = some (x, kv) := by rw [hQS]; exact hp
      have EQ : EW B L w3 QS (.slice (some ⟨g, off, none⟩) ps.length vc) := by rw [hQS]; exact E3
      have hi1 : (i : Int) < (ps.length : Int) := by omega
      have hi0 : (0 : Int) ≤ (i : Int) := by omega
      have hBq := hB3
      have hLq : L ≤ w3.heap.size := Nat.le_trans hL (unhide HB3).size
      have HTq := unhide HM3
      have hxb : -1000000000000000000 ≤ x.next ∧ x.next ≤ 1000000000000000000 := unhide HN x (List.mem_of_getElem? hx)
      have hkx : x.kept.length ≤ 3 := unhide HK x (List.mem_of_getElem? hx)
      have FIN : ∀ (w9 : World) (kv' : Value) (E : EW B L w9 (QS.set i (Rp.withNext x t, kv')) (.slice (some ⟨g, off, none⟩) ps.length vc)) (O : OutP (fun b => b = g ∨ kv.ownBlock = some b) w3 w9) (hat : kv'.ownBlock = kv.ownBlock ∨ ∃ b, kv'.ownBlock = some b ∧ w3.heap.size ≤ b) (a b : Value), DoneP B L ps (.slice (some ⟨g, off, none⟩) ps.length vc) w (deployF (ps.map Prod.fst) t) (.slice (some ⟨g, off, none⟩) ps.length vc) 0 x.next ((w9.setCell ⟨w.heap.size + 1, 0, none⟩ a).setCell ⟨w.heap.size + 1, 1, none⟩ b) := by
        intro w9 kv' E O hat a b
        have hz := unhide HZ3
        have hmem := List.mem_of_getElem? hp
        have e : deployF (ps.map Prod.fst) t = ((ps.map Prod.fst).set i (Rp.withNext x t), ⟨0, x.next⟩) := by
          unfold deployF; rw [if_neg (fun q => q (unhide HTE).symm), hFE]; simp only []
          have hat := unhide HAT
          have hf := unhide HF
          rw [← hxn] at hat hf
          rw [put_found (x := Rp.withNext x t) hat hf.symm]
        rw [e]
        refine DoneP.fin (n1 := w.heap.size + 2) E ((OutP.of_below (O := Ob ps (.slice (some ⟨g, off, none⟩) ps.length vc)) (unhide HB3)).trans O fun b _ q => ?_) (unhide HO) (fun b q => ?_) (by omega) (by omega) hB (by rw [map_set_fst, hQS]) _ _ rfl rfl
        · rcases q with q | q
          · exact .inl (by rw [q, h00]; rfl)
          · exact .inr ⟨_, hmem, q⟩
        · rcases q with q | ⟨p, hm, q⟩
          · exact .inl (.inl q)
          · rcases List.mem_or_eq_of_mem_set hm with r | rfl
            · exact .inl (.inr ⟨p, by rw [← hQS]; exact r, q⟩)
            · rcases hat with r | ⟨d, r, hd⟩
              · exact .inl (.inr ⟨_, hmem, r ▸ q⟩)
              · right
                have : d = b := Option.some.inj (r.symm.trans q)
                omega
      have RQ := R3
      have NQ0 : ¬ (w.heap.size + 1 = g ∨ kv.ownBlock = some (w.heap.size + 1)) := by
        have hz := unhide HO
        rintro (q | q)
        · have := hz g (.inl (by rw [h00]; rfl)); omega
        · have := hz _ (.inr ⟨_, List.mem_of_getElem? hp, q⟩); omega
      clear hFE hx hxn hp hil E3 T3 R3 hQS hLg hgl

      have HQ := hide EQ
      have HPI := hide PI
      have HFN := hide FIN
      have HOF := hide h00
      have HBQ := hide hBq
      have hiq := (List.getElem?_eq_some_iff.1 PI).1
      have HIQ := hide hiq
      have KEY := hide (fun (wx : World) (hx : Below w3.heap.size w3 wx) (w6 : World) (v6 : Value) (hP : NextP B L wx x.name x.next kv x.kept t v6 w6) => EQ.nextP hBL hLq h00 PI hx hP)
      obtain ⟨ka, kc, ekv, c0, c1, c2, c3, _⟩ := EQ.at PI h00
      subst ekv
      have HRQ := hide RQ
      have HNQ : Hid (¬ (w.heap.size + 1 = g ∨ (Value.slice ka x.kept.length kc).ownBlock = some (w.heap.size + 1))) := hide NQ0
      clear RQ NQ0
      obtain ⟨kcss, kr, ko⟩ := EQ.kept _ (List.mem_of_getElem? PI)
      have WN := hide (fun (wx : World) (hx : Below w3.heap.size w3 wx) => withNext_any (B := B) (L := L) x.name x.next x.now ka x.kept.length kc x.kept kcss t _ wx hxb rfl (by omega) hBL (Nat.le_trans hLq hx.size) (kr.imp fun y cs q => VeM.below (hx.mono hBq) q) (own_keepT ko hx) (HTq.below (hx.mono hBq)))
      clear EQ PI FIN hiq hBq hxb h00 kr ko HTq hkx
      go_upto_region 9 with fail
      go_region_with ((with_reducible refine (unhide WN _ ?_).mono ?_; · exact (by repeat (first | assumption | exact Below.refl _ _ | apply Below.drew))); rintro e w6 ⟨v6, rfl, hP⟩; obtain ⟨ka', kn', kc', rfl, ⟨d0, d1, d2, d3⟩, ⟨z0, z1, z2, z3⟩, hX⟩ := unhide KEY _ (by repeat (first | assumption | exact Below.refl _ _ | apply Below.drew)) _ _ hP; clear hP c0 c1 c2 c3)
      all_goals
        obtain ⟨w7, hw7⟩ : ∃ w7, w7 = (((w6.setCell ⟨g, off + i * 4, none⟩ (.string x.name)).setCell ⟨g, off + i * 4 + 1, none⟩ (.int .i64 (x.next + 1))).setCell ⟨g, off + i * 4 + 2, none⟩ (.int .i64 x.next)).setCell ⟨g, off + i * 4 + 3, none⟩ (.slice ka' kn' kc') := ⟨_, rfl⟩
        have NX := unhide hX
        rw [← hw7] at NX
        obtain ⟨N1, N2, N3⟩ := NX
        obtain ⟨_, _, ek, e0, e1, e2, e3, _⟩ := N1.at (i := i) (x := Rp.withNext x t) (kv := .slice ka' kn' kc') (by rw [List.getElem?_set_self (unhide HIQ)]) (unhide HOF)
        rw [← ek] at e3
        replace e0 : w7.cell? ⟨g, off + i * 4, none⟩ = some (.string x.name) := e0
        replace e1 : w7.cell? ⟨g, off + i * 4 + 1, none⟩ = some (.int .i64 (x.next + 1)) := e1
        replace e2 : w7.cell? ⟨g, off + i * 4 + 2, none⟩ = some (.int .i64 x.next) := e2
        have R7 := (unhide HRQ).out12 N2 (unhide HNQ)
        have HE7 := hide N1
        have HO7 := hide N2
        have HA7 := hide N3
        have HR7 := hide R7
        obtain ⟨q0, q1, p0, p1, ql⟩ := And.intro R7.at0 (And.intro R7.at1 (And.intro R7.th0 (And.intro R7.th1 R7.low)))
        clear N1 N2 N3 ek R7 hX d0 d1 d2 d3 z0 z1 z2 z3 r0 r1 f0 f1 t0 t1 t2 t3 t4 WN KEY
        go_upto_region 10 with fail
        rw [← hw7]
        clear hw7
        go_wp2_with fail
        refine (unhide CNT _ _ _ _ _ _ _).mono ?_
        rintro e w8 ⟨rfl, hb8⟩
        have R8 := (unhide HR7).keep hb8 ql
        have hB7 : B ≤ w7.heap.size := Nat.le_trans (unhide HBQ) (unhide HO7).size
        have HE8 := hide ((unhide HE7).below hB7 hb8)
        have HO8 := hide ((unhide HO7).then hb8)
        obtain ⟨s0, s1, u0, u1, _⟩ := And.intro R8.at0 (And.intro R8.at1 (And.intro R8.th0 (And.intro R8.th1 R8.low)))
        clear hb8 R8 q0 q1 p0 p1 e0 e1 e2 e3
        go_wp2
        refine bodyPost_ret (v := .tuple #[.slice (some ⟨g, off, none⟩) ps.length vc, .agg #[.int .i64 0, .int .i64 x.next]]) (by simp [results, Tryz.results34, go_sem, s0, s1]) rfl ⟨_, _, _, rfl, ?_⟩
        exact unhide HFN _ _ (unhide HE8) (unhide HO8) (unhide HA7) _ _
    | false =>
      have HNF := hide (find_lost (unhide HR) (unhide HAT) (unhide HF).symm)
      obtain ⟨t0, t1, t2, t3, t4⟩ := T3.tell
      obtain ⟨r0, r1, f0, f1, rl⟩ := And.intro R3.at0 (And.intro R3.at1 (And.intro R3.th0 (And.intro R3.th1 R3.low)))
      clear T3 R3 E3
      by_cases h6 : 6 ≤ ps.length
      · have h6i : (6 : Int) ≤ (ps.length : Int) := by omega
        go_wp2_with fail
        refine (unhide RFD _ _).mono ?_
        rintro e w4 ⟨rfl, hb4⟩
        have R4 := (unhide HR3).keep hb4 rl
        have HB4 := hide (below_via (unhide HB3) hb4)
        have HE4 := hide ((unhide HE3).below hB3 hb4)
        obtain ⟨q0, q1, p0, p1, _⟩ := And.intro R4.at0 (And.intro R4.at1 (And.intro R4.th0 (And.intro R4.th1 R4.low)))
        clear hb4 R4 r0 r1 f0 f1 t0 t1 t2 t3 t4
        go_wp2
        refine bodyPost_ret (v := .tuple #[.slice va ps.length vc, .agg #[.int .i64 5, .int .i64 0]]) (by simp [results, Tryz.results34, go_sem, q0, q1]) rfl ⟨_, _, _, rfl, ?_⟩
        have e : deployF (ps.map Prod.fst) t = (ps.map Prod.fst, ⟨5, 0⟩) := by unfold deployF; rw [if_neg (fun q => q (unhide HTE).symm), unhide HNF]; simp only []; rw [if_pos (by simpa using h6)]
        rw [e]
        exact DoneP.fin (n1 := w.heap.size + 2) (unhide HE4) (OutP.of_below (unhide HB4)) (unhide HO) (fun b q => .inl q) (by omega) (by omega) hB rfl _ _ rfl rfl
      · have h6i : ¬ (6 : Int) ≤ (ps.length : Int) := by omega
        have hi6 : i ≤ ps.length := by have := (unhide HAT).le; simpa using this
        have hB3' := hB3
        obtain ⟨w4, hw4⟩ : ∃ w4, w4 = w3.alloc (.cells #[.string t.name, .int .i64 1, .int .i64 0, .slice none 0 0] 54) := ⟨_, rfl⟩
        have hb4 : Below w3.heap.size w3 w4 := by rw [hw4]; exact vbelow_new _ _
        have N4' : N4 w4 w3.heap.size (.string t.name) (.int .i64 1) (.int .i64 0) (.slice none 0 0) := by rw [hw4]; exact N4.new _ _ _ _ _ _
        have HH4 : w4.heap[w3.heap.size]? = some (.cells #[.string t.name, .int .i64 1, .int .i64 0, .slice none 0 0] 54 (0, 0)) := by rw [hw4]; show (w3.heap.push _)[w3.heap.size]? = _; rw [Array.getElem?_push_size]
        have sz4 : w4.heap.size = w3.heap.size + 1 := by rw [hw4]; simp
        have E4 := (unhide HE3).below hB3 hb4
        have INS := insert_any i (.slice va ps.length vc) (ps.map ec).flatten (ec (⟨t.name, 1, 0, []⟩, .slice none 0 0)) w3.heap.size 4 54 w4 E4.own (by have := hb4.size; have := (unhide HB3).size; omega) hi6 (by omega) rfl (by omega) (fun e => by have := ((unhide HE3).lt _ (.inl e)).2; omega) E4.one (fun u hu => by simp [ec] at hu; rcases hu with rfl | rfl | rfl | rfl <;> rfl) (fun j u hu => by
          obtain ⟨c0, c1, c2, c3, _⟩ := N4'
          match j, hu with
          | 0, hu => cases hu; exact c0
          | 1, hu => cases hu; exact c1
          | 2, hu => cases hu; exact c2
          | 3, hu => cases hu; exact c3) (by simp [World.shape?, HH4]) (frozen_of_row w4 _ _ _ _ HH4) (frozen_of_row w4 _ _ _ _ HH4)
        have HINS := hide INS
        go_wp2_with fail
        rw [← hw4]
        refine (unhide HINS).mono ?_
        rintro e w5 ⟨u, rfl, o5, g5, a5⟩
        obtain ⟨ua, vcq, hu⟩ := own_slice12 o5
        have E5 := E4.ins hBL (Nat.le_trans hL (Nat.le_trans (unhide HB3).size hb4.size)) (e0 := ⟨t.name, 1, 0, []⟩) rfl g5 o5 a5 hi6
        obtain ⟨QS, hQS⟩ : ∃ QS, QS = ps.take i ++ ((⟨t.name, 1, 0, []⟩, .slice none 0 0) : Rp.Ent ByteArray TbT × Value) :: ps.drop i := ⟨_, rfl⟩
        rw [← hQS] at E5
        have hQL : QS.length = ps.length + 1 := by rw [hQS, List.length_append, List.length_cons, List.length_take, List.length_drop]; omega
        obtain ⟨g, off, cap, h00, hv, hLg, hgl, _⟩ := E5.place (by omega)
        rw [hQL] at hv
        rw [hu] at hv
        cases hv
        subst hu
        obtain ⟨x, ex⟩ : ∃ x : Rp.Ent ByteArray TbT, x = ⟨t.name, 1, 0, []⟩ := ⟨_, rfl⟩
        obtain ⟨kv, ekv0⟩ : ∃ kv : Value, kv = .slice none 0 0 := ⟨_, rfl⟩
        have PI : QS[i]? = some (x, kv) := by rw [hQS, ex, ekv0]; exact ins_at ps _ hi6
        have EQ := E5
        have hi1 : (i : Int) < ((ps.length + 1 : Nat) : Int) := by omega
        have hi0 : (0 : Int) ≤ (i : Int) := by omega
        have hBq : B ≤ w5.heap.size := Nat.le_trans hB3 (Nat.le_trans hb4.size g5.size)
        have hLq : L ≤ w5.heap.size := Nat.le_trans hL (Nat.le_trans (unhide HB3).size (Nat.le_trans hb4.size g5.size))
        have hb5 : Below L w4 w5 := ⟨g5.os, g5.tape, g5.output, g5.size, fun b hb => g5.block b (by have := hb4.size; have := (unhide HB3).size; omega) fun e => by have := ((unhide HE3).lt b (.inl e.symm)).1; omega⟩
        have HTq := ((unhide HM3).below (hb4.mono hB3)).below (hb5.mono hBL)
        have hxb : -1000000000000000000 ≤ x.next ∧ x.next ≤ 1000000000000000000 := by rw [ex]; exact ⟨by show (-1000000000000000000 : Int) ≤ 1; decide, by show (1 : Int) ≤ 1000000000000000000; decide⟩
        have hkx : x.kept.length ≤ 3 := by rw [ex]; exact Nat.zero_le _
        have hva : ∀ b, (Value.slice va ps.length vc).ownBlock = some b → b < w.heap.size := fun b q => (unhide HO) b (.inl q)
        have T5 := ((unhide HT3).keep hb4 (unhide HT3).low).grown12 g5 (fun e => by have := hva _ e.symm; omega)
        have RQ := ((unhide HR3).keep hb4 (unhide HR3).low).grown12 g5 (fun e => by have := hva _ e.symm; omega)
        have NQ0 : ¬ (w.heap.size + 1 = g ∨ kv.ownBlock = some (w.heap.size + 1)) := by
          rintro (q | q)
          · rcases a5 with r | ⟨b, r, hb⟩
            · have := hva g (by rw [← r, h00]; rfl); omega
            · have : g = b := Option.some.inj ((show (Value.slice (some ⟨g, off, none⟩) (ps.length + 1) vcq).ownBlock = some g by rw [h00]; rfl).symm.trans r)
              have := unhide HZ3
              omega
          · rw [ekv0] at q; cases q
        have FIN : ∀ (w9 : World) (kv' : Value) (E : EW B L w9 (QS.set i (Rp.withNext x t, kv')) (.slice (some ⟨g, off, none⟩) (ps.length + 1) vcq)) (O : OutP (fun b => b = g ∨ kv.ownBlock = some b) w5 w9) (hat : kv'.ownBlock = kv.ownBlock ∨ ∃ b, kv'.ownBlock = some b ∧ w5.heap.size ≤ b) (a b : Value), DoneP B L ps (.slice va ps.length vc) w (deployF (ps.map Prod.fst) t) (.slice (some ⟨g, off, none⟩) (ps.length + 1) vcq) 0 x.next ((w9.setCell ⟨w.heap.size + 1, 0, none⟩ a).setCell ⟨w.heap.size + 1, 1, none⟩ b) := by
          intro w9 kv' E O hat a b
          have hz := unhide HZ3
          have hz4 := hb4.size
          have hz5 := g5.size
          have e : deployF (ps.map Prod.fst) t = ((ps.map Prod.fst).take i ++ Rp.withNext x t :: (ps.map Prod.fst).drop i, ⟨0, x.next⟩) := by
            unfold deployF; rw [if_neg (fun q => q (unhide HTE).symm), unhide HNF]; simp only []
            rw [if_neg (by simpa using h6), ← ex, put_lost (x := Rp.withNext x t) (by rw [ex]; exact unhide HAT) (by rw [ex]; exact (unhide HF).symm), ex]
          rw [e]
          have hnew : ∀ b, (Value.slice (some ⟨g, off, none⟩) (ps.length + 1) vcq).ownBlock = some b → (Value.slice va ps.length vc).ownBlock = some b ∨ w4.heap.size ≤ b := fun b q => by
            rcases a5 with r | ⟨d, r, hd⟩
            · exact .inl (r ▸ q)
            · right
              have : d = b := Option.some.inj (r.symm.trans q)
              omega
          refine DoneP.fin (n1 := w.heap.size + 2) E (((OutP.of_below (O := Ob ps (.slice va ps.length vc)) (unhide HB3)).trans ((OutP.of_below (O := Ob ps (.slice va ps.length vc)) hb4).trans (OutP.of_grown (O := Ob ps (.slice va ps.length vc)) g5 fun b e _ => .inl e) fun b _ q => q) fun b _ q => q).trans O fun b hb q => ?_) (unhide HO) (fun b q => ?_) (by omega) (by omega) hB (by rw [map_set_fst, hQS, List.map_append, List.map_cons, List.map_take, List.map_drop, ins_set _ _ _ (by simpa using hi6)]) _ _ rfl rfl
          · rcases q with q | q
            · rcases hnew b (by rw [q, h00]; rfl) with r | r
              · exact .inl r
              · omega
            · rw [ekv0] at q; cases q
          · rcases q with q | ⟨p, hm, q⟩
            · rcases hnew b q with r | r
              · exact .inl (.inl r)
              · exact .inr (by omega)
            · rcases List.mem_or_eq_of_mem_set hm with r | rfl
              · rw [hQS] at r
                rcases List.mem_append.1 r with r | r
                · exact .inl (.inr ⟨p, List.mem_of_mem_take r, q⟩)
                · rcases List.mem_cons.1 r with rfl | r
                  · cases q
                  · exact .inl (.inr ⟨p, List.mem_of_mem_drop r, q⟩)
              · rcases hat with r | ⟨d, r, hd⟩
                · rw [ekv0] at r
                  rw [r] at q
                  cases q
                · right
                  have : d = b := Option.some.inj (r.symm.trans q)
                  omega
        clear E4 E5 INS N4' HH4 hw4 hQS hQL hva hb4 hb5 o5 g5 a5 sz4 ex ekv0 t0 t1 t2 t3 t4 r0 r1 f0 f1 hLg hgl hi6 h6i h6
        obtain ⟨t0, t1, t2, t3, t4⟩ := T5.tell
        obtain ⟨r0, r1, f0, f1, rl'⟩ := And.intro RQ.at0 (And.intro RQ.at1 (And.intro RQ.th0 (And.intro RQ.th1 RQ.low)))
        clear T5

        have HQ := hide EQ
        have HPI := hide PI
        have HFN := hide FIN
        have HOF := hide h00
        have HBQ := hide hBq
        have hiq := (List.getElem?_eq_some_iff.1 PI).1
        have HIQ := hide hiq
        have KEY := hide (fun (wx : World) (hx : Below w5.heap.size w5 wx) (w6 : World) (v6 : Value) (hP : NextP B L wx x.name x.next kv x.kept t v6 w6) => EQ.nextP hBL hLq h00 PI hx hP)
        obtain ⟨ka, kc, ekv, c0, c1, c2, c3, _⟩ := EQ.at PI h00
        subst ekv
        have HRQ := hide RQ
        have HNQ : Hid (¬ (w.heap.size + 1 = g ∨ (Value.slice ka x.kept.length kc).ownBlock = some (w.heap.size + 1))) := hide NQ0
        clear RQ NQ0
        obtain ⟨kcss, kr, ko⟩ := EQ.kept _ (List.mem_of_getElem? PI)
        have WN := hide (fun (wx : World) (hx : Below w5.heap.size w5 wx) => withNext_any (B := B) (L := L) x.name x.next x.now ka x.kept.length kc x.kept kcss t _ wx hxb rfl (by omega) hBL (Nat.le_trans hLq hx.size) (kr.imp fun y cs q => VeM.below (hx.mono hBq) q) (own_keepT ko hx) (HTq.below (hx.mono hBq)))
        clear EQ PI FIN hiq hBq hxb h00 kr ko HTq hkx
        go_upto_region 9 with fail
        go_region_with ((with_reducible refine (unhide WN _ ?_).mono ?_; · exact (by repeat (first | assumption | exact Below.refl _ _ | apply Below.drew))); rintro e w6 ⟨v6, rfl, hP⟩; obtain ⟨ka', kn', kc', rfl, ⟨d0, d1, d2, d3⟩, ⟨z0, z1, z2, z3⟩, hX⟩ := unhide KEY _ (by repeat (first | assumption | exact Below.refl _ _ | apply Below.drew)) _ _ hP; clear hP c0 c1 c2 c3)
        all_goals
          obtain ⟨w7, hw7⟩ : ∃ w7, w7 = (((w6.setCell ⟨g, off + i * 4, none⟩ (.string x.name)).setCell ⟨g, off + i * 4 + 1, none⟩ (.int .i64 (x.next + 1))).setCell ⟨g, off + i * 4 + 2, none⟩ (.int .i64 x.next)).setCell ⟨g, off + i * 4 + 3, none⟩ (.slice ka' kn' kc') := ⟨_, rfl⟩
          have NX := unhide hX
          rw [← hw7] at NX
          obtain ⟨N1, N2, N3⟩ := NX
          obtain ⟨_, _, ek, e0, e1, e2, e3, _⟩ := N1.at (i := i) (x := Rp.withNext x t) (kv := .slice ka' kn' kc') (by rw [List.getElem?_set_self (unhide HIQ)]) (unhide HOF)
          rw [← ek] at e3
          replace e0 : w7.cell? ⟨g, off + i * 4, none⟩ = some (.string x.name) := e0
          replace e1 : w7.cell? ⟨g, off + i * 4 + 1, none⟩ = some (.int .i64 (x.next + 1)) := e1
          replace e2 : w7.cell? ⟨g, off + i * 4 + 2, none⟩ = some (.int .i64 x.next) := e2
          have R7 := (unhide HRQ).out12 N2 (unhide HNQ)
          have HE7 := hide N1
          have HO7 := hide N2
          have HA7 := hide N3
          have HR7 := hide R7
          obtain ⟨q0, q1, p0, p1, ql⟩ := And.intro R7.at0 (And.intro R7.at1 (And.intro R7.th0 (And.intro R7.th1 R7.low)))
          clear N1 N2 N3 ek R7 hX d0 d1 d2 d3 z0 z1 z2 z3 r0 r1 f0 f1 t0 t1 t2 t3 t4 WN KEY
          go_upto_region 10 with fail
          rw [← hw7]
          clear hw7
          go_wp2_with fail
          refine (unhide CNT _ _ _ _ _ _ _).mono ?_
          rintro e w8 ⟨rfl, hb8⟩
          have R8 := (unhide HR7).keep hb8 ql
          have hB7 : B ≤ w7.heap.size := Nat.le_trans (unhide HBQ) (unhide HO7).size
          have HE8 := hide ((unhide HE7).below hB7 hb8)
          have HO8 := hide ((unhide HO7).then hb8)
          obtain ⟨s0, s1, u0, u1, _⟩ := And.intro R8.at0 (And.intro R8.at1 (And.intro R8.th0 (And.intro R8.th1 R8.low)))
          clear hb8 R8 q0 q1 p0 p1 e0 e1 e2 e3
          go_wp2
          refine bodyPost_ret (v := .tuple #[.slice (some ⟨g, off, none⟩) (ps.length + 1) vcq, .agg #[.int .i64 0, .int .i64 x.next]]) (by simp [results, Tryz.results34, go_sem, s0, s1]) rfl ⟨_, _, _, rfl, ?_⟩
          exact unhide HFN _ _ (unhide HE8) (unhide HO8) (unhide HA7) _ _
  · have gd : (TE != 0) = true := by simp [h0]
    have HH0 := hide h0
    obtain ⟨r0, r1, f0, f1, rl⟩ := And.intro R2.at0 (And.intro R2.at1 (And.intro R2.th0 (And.intro R2.th1 R2.low)))
    clear E2 T2 R2 hb2 h0
    go_wp2_with fail
    refine (unhide RFD _ _).mono ?_
    rintro e w3 ⟨rfl, hb3⟩
    have R3 := (unhide HR2).keep hb3 rl
    have HB3 := hide (below_via (unhide HB2) hb3)
    have HE3 := hide ((unhide HE2).below (Nat.le_trans hB (unhide HB2).size) hb3)
    obtain ⟨q0, q1, p0, p1, _⟩ := And.intro R3.at0 (And.intro R3.at1 (And.intro R3.th0 (And.intro R3.th1 R3.low)))
    clear hb3 R3 r0 r1 f0 f1
    go_wp2
    refine bodyPost_ret (v := .tuple #[.slice va ps.length vc, .agg #[.int .i64 TE, .int .i64 0]]) (by simp [results, Tryz.results34, go_sem, q0, q1]) rfl ⟨_, _, _, rfl, ?_⟩
    have e : deployF (ps.map Prod.fst) t = (ps.map Prod.fst, ⟨TE, 0⟩) := by unfold deployF; rw [← unhide HTE, if_pos (unhide HH0)]
    rw [e]
    exact DoneP.fin (n1 := w.heap.size + 2) (unhide HE3) (OutP.of_below (unhide HB3)) (unhide HO) (fun b q => .inl q) (by omega) (by omega) hB rfl _ _ rfl rfl
end Go.Proofs.YtnegjbkbfgkkjaaGreatDoor

/- Walks: a command is done to entries. -/
namespace Go.Proofs.YtnegjbkbfgkkjaaGreatDoor
open Go.RowKit Go.MapKept

theorem N10.out12 {O : Nat → Prop} {w w' : World} {b : Nat} {cs : Array Value} (h : N10 w b cs) (ho : OutP O w w') (hn : ¬ O b) : N10 w' b cs := by
  have bl := ho.block b h.low hn
  exact ⟨Nat.lt_of_lt_of_le h.low ho.size, fun j u hu => (World.cell?_of_block (a := ⟨b, j, none⟩) bl).trans (h.c j u hu)⟩
/-- a callee's promise, told at the end of its caller -/
theorem DoneP.pass {B L : Nat} {ps : List (Rp.Ent ByteArray TbT × Value)} {v u : Value} {w w1 w4 : World} {r : List (Rp.Ent ByteArray TbT) × Rp.Reply} {rb : Nat} {er vr : Int} (h : DoneP B L ps v w1 r u er vr w4) (hb : Below w.heap.size w w1) (hO : ∀ b, Ob ps v b → b < w.heap.size) (h1 : w.heap.size ≤ rb) (h2 : rb < w1.heap.size) (hB : B ≤ w.heap.size) (x y : Value) :
    DoneP B L ps v w r u er vr ((w4.setCell ⟨rb, 0, none⟩ x).setCell ⟨rb, 1, none⟩ y) := by
  obtain ⟨ps', E, e1, e2, e3, O, hn⟩ := h
  exact DoneP.fin E ((OutP.of_below (O := Ob ps v) hb).trans O fun b _ q => q) hO hn h1 h2 hB e1 x y e2 e3

set_option maxRecDepth 100000 in
set_option maxHeartbeats 8000000 in
theorem done_any {B L : Nat} (ps : List (Rp.Ent ByteArray TbT × Value)) (v : Value) (c : CmT) (cc : Array Value) (w : World) (hBL : B ≤ L) (hL : L ≤ w.heap.size) (h : EW B L w ps v) (hr : Rise (ps.map Prod.fst)) (hl : ps.length ≤ 6) (hG : GdT B w) (hc : CmM B w c cc)
    (hn : ∀ e ∈ ps.map Prod.fst, -1000000000000000000 ≤ e.next ∧ e.next ≤ 1000000000000000000) (hk : ∀ e ∈ ps.map Prod.fst, e.kept.length ≤ 3) :
    Calls Tryz.prog 20 #[v, .agg cc] w fun e w' => ∃ u er vr, e = .returned (.tuple #[u, .agg #[.int .i64 er, .int .i64 vr]]) ∧ DoneP B L ps v w (doneN (ps.map Prod.fst) c) u er vr w' := by
  obtain ⟨ia, oa, ra, ic, oc, rc, rfl, ht⟩ := hc.open
  obtain ⟨w1, hw1⟩ : ∃ w1, w1 = (w.alloc (.cells #[.int .i64 c.session, .int .i64 c.seq, .int .i64 c.kind, .string c.table.name, .int .i64 c.table.pol, .slice ia c.table.ins.length ic, .slice oa c.table.outs.length oc, .slice ra c.table.rules.length rc, .string c.name, .int .i64 c.back] 36)).alloc (.cells #[.int .i64 0, .int .i64 0] 39) := ⟨_, rfl⟩
  have b1 : Below w.heap.size w w1 := by rw [hw1]; exact below_via (vbelow_new _ _) (vbelow_new _ _)
  have C1 : N10 w1 w.heap.size #[.int .i64 c.session, .int .i64 c.seq, .int .i64 c.kind, .string c.table.name, .int .i64 c.table.pol, .slice ia c.table.ins.length ic, .slice oa c.table.outs.length oc, .slice ra c.table.rules.length rc, .string c.name, .int .i64 c.back] := by rw [hw1]; exact (N10.new _ _ _).keep (vbelow_new _ _) (by simp)
  have R1 : Bx2 w1 (w.heap.size + 1) (.int .i64 0) (.int .i64 0) := by
    rw [hw1]
    have := Bx2.new (w.alloc (.cells #[.int .i64 c.session, .int .i64 c.seq, .int .i64 c.kind, .string c.table.name, .int .i64 c.table.pol, .slice ia c.table.ins.length ic, .slice oa c.table.outs.length oc, .slice ra c.table.rules.length rc, .string c.name, .int .i64 c.back] 36)) 39 (.int .i64 0) (.int .i64 0)
    simpa using this
  have hB : B ≤ w.heap.size := Nat.le_trans hBL hL
  have E1 := h.below hB b1
  have hL1 : L ≤ w1.heap.size := Nat.le_trans hL b1.size
  have sz1 : w1.heap.size = w.heap.size + 2 := by rw [hw1]; simp
  have hO : ∀ b, Ob ps v b → b < w.heap.size := fun b q => (h.lt b q).2
  have hNo : ¬ Ob ps v (w.heap.size + 1) := fun q => by have := hO _ q; omega
  have DEP := hide (deployed_any ps v c.table _ w1 hBL hL1 E1 hr hl (hG.keep (b1.mono hB)) (ht.below (b1.mono hB)) hn hk)
  have BCK := hide (rolledBack_any ps v c.name c.back w1 hBL hL1 E1 hr (by omega))
  have DRP := hide (dropped_any ps v c.name w1 hBL hL1 E1 hr (by omega))
  have RFD := hide (fun k wx => refused_any k wx)
  have SAM := hide (fun (w2 : World) (hb : Below w1.heap.size w1 w2) (r : Rp.Reply) => DoneP.same (B := B) (L := L) E1 (Nat.le_trans hBL hL1) hb r)
  have FIN := hide (fun (u : Value) (w4 : World) (r : List (Rp.Ent ByteArray TbT) × Rp.Reply) (er vr : Int) (hd : DoneP B L ps v w1 r u er vr w4) (x y : Value) => hd.pass (rb := w.heap.size + 1) b1 hO (by omega) (by omega) hB x y)
  have HD := hide (doneN_eq (ps.map Prod.fst) c)
  have OUT := hide (fun (u : Value) (w4 : World) (r : List (Rp.Ent ByteArray TbT) × Rp.Reply) (er vr : Int) (hd : DoneP B L ps v w1 r u er vr w4) => show Bx2 w4 (w.heap.size + 1) (.int .i64 0) (.int .i64 0) by obtain ⟨_, _, _, _, _, O, _⟩ := hd; exact R1.out12 O hNo)
  obtain ⟨va, vc, hv⟩ := h.slice
  subst hv
  have HR1 := hide R1
  have rl1 := R1.low
  obtain ⟨K, hK⟩ : ∃ K, K = c.kind := ⟨_, rfl⟩
  have c2 := C1.c 2 _ rfl
  have c3 := C1.c 3 _ rfl
  have c4 := C1.c 4 _ rfl
  have c5 := C1.c 5 _ rfl
  have c6 := C1.c 6 _ rfl
  have c7 := C1.c 7 _ rfl
  have c8 := C1.c 8 _ rfl
  have c9 := C1.c 9 _ rfl
  rw [← hK] at c2 HD
  clear b1 C1 R1 E1 hr h hG hc ht hn hk hO hNo sz1
  go_enter Tryz.func20, Tryz.ntmps20
  go_upto_region 1 with fail
  rw [← hw1]
  clear hw1 hK
  by_cases h1 : K = 1
  · subst h1
    have HD1 := hide ((unhide HD).trans (if_pos rfl))
    go_wp2_with fail
    refine (unhide DEP).mono ?_
    rintro e w2 ⟨u, er, vr, rfl, hd⟩
    have R2 := (unhide OUT) _ _ _ _ _ hd
    obtain ⟨r0, r1, f0, f1, _⟩ := And.intro R2.at0 (And.intro R2.at1 (And.intro R2.th0 (And.intro R2.th1 R2.low)))
    obtain ⟨ua, um, uc, hu⟩ : ∃ a n c, u = .slice a n c := by obtain ⟨_, E, _⟩ := hd; obtain ⟨a, c, e⟩ := E.slice; exact ⟨_, _, _, e⟩
    have HDD := hide hd
    subst hu
    clear hd R2 c2 c3 c4 c5 c6 c7 c8 c9 DEP BCK DRP
    go_wp2
    refine bodyPost_ret (v := .tuple #[.slice ua um uc, .agg #[.int .i64 er, .int .i64 vr]]) (by simp [results, Tryz.results20, go_sem, r0, r1]) rfl ⟨_, _, _, rfl, ?_⟩
    rw [unhide HD1]
    exact unhide FIN _ _ _ _ _ (unhide HDD) _ _
  · by_cases h2 : K = 2
    · subst h2
      have HD1 := hide (((unhide HD).trans (if_neg (by decide))).trans (if_pos rfl))
      clear h1
      go_wp2_with fail
      refine (unhide BCK).mono ?_
      rintro e w2 ⟨er, vr, rfl, hd⟩
      have R2 := (unhide OUT) _ _ _ _ _ hd
      obtain ⟨r0, r1, f0, f1, _⟩ := And.intro R2.at0 (And.intro R2.at1 (And.intro R2.th0 (And.intro R2.th1 R2.low)))
      have HDD := hide hd
      clear hd R2 c2 c3 c4 c5 c6 c7 c8 c9 DEP BCK DRP
      go_wp2
      refine bodyPost_ret (v := .tuple #[.slice va ps.length vc, .agg #[.int .i64 er, .int .i64 vr]]) (by simp [results, Tryz.results20, go_sem, r0, r1]) rfl ⟨_, _, _, rfl, ?_⟩
      rw [unhide HD1]
      exact unhide FIN _ _ _ _ _ (unhide HDD) _ _
    · by_cases h3 : K = 3
      · subst h3
        have HD1 := hide ((((unhide HD).trans (if_neg (by decide))).trans (if_neg (by decide))).trans (if_pos rfl))
        clear h1 h2
        go_wp2_with fail
        refine (unhide DRP).mono ?_
        rintro e w2 ⟨u, er, vr, rfl, hd⟩
        have R2 := (unhide OUT) _ _ _ _ _ hd
        obtain ⟨r0, r1, f0, f1, _⟩ := And.intro R2.at0 (And.intro R2.at1 (And.intro R2.th0 (And.intro R2.th1 R2.low)))
        obtain ⟨ua, um, uc, hu⟩ : ∃ a n c, u = .slice a n c := by obtain ⟨_, E, _⟩ := hd; obtain ⟨a, c, e⟩ := E.slice; exact ⟨_, _, _, e⟩
        have HDD := hide hd
        subst hu
        clear hd R2 c2 c3 c4 c5 c6 c7 c8 c9 DEP BCK DRP
        go_wp2
        refine bodyPost_ret (v := .tuple #[.slice ua um uc, .agg #[.int .i64 er, .int .i64 vr]]) (by simp [results, Tryz.results20, go_sem, r0, r1]) rfl ⟨_, _, _, rfl, ?_⟩
        rw [unhide HD1]
        exact unhide FIN _ _ _ _ _ (unhide HDD) _ _
      · have HD1 := hide ((((unhide HD).trans (if_neg h1)).trans (if_neg h2)).trans (if_neg h3))
        have g1 : (K == 1) = false := by simpa using h1
        have g2 : (K == 2) = false := by simpa using h2
        have g3 : (K == 3) = false := by simpa using h3
        go_wp2_with fail
        refine (unhide RFD _ _).mono ?_
        rintro e w2 ⟨rfl, hb2⟩
        have R2 := (unhide HR1).keep hb2 rl1
        obtain ⟨r0, r1, f0, f1, _⟩ := And.intro R2.at0 (And.intro R2.at1 (And.intro R2.th0 (And.intro R2.th1 R2.low)))
        have HDD := hide (unhide SAM _ hb2 ⟨1, 0⟩)
        clear hb2 R2 c2 c3 c4 c5 c6 c7 c8 c9 DEP BCK DRP
        go_wp2
        refine bodyPost_ret (v := .tuple #[.slice va ps.length vc, .agg #[.int .i64 1, .int .i64 0]]) (by simp [results, Tryz.results20, go_sem, r0, r1]) rfl ⟨_, _, _, rfl, ?_⟩
        rw [unhide HD1]
        exact unhide FIN _ _ _ _ _ (unhide HDD) _ _
end Go.Proofs.YtnegjbkbfgkkjaaGreatDoor

/- A block and what it holds, whole. -/
namespace Go.Proofs.YtnegjbkbfgkkjaaGreatDoor
open Go.RowKit Go.MapKept

/-- block b holds these cells -/
def Blk (w : World) (b : Nat) (T : TypeId) (cs : Array Value) : Prop := w.heap[b]? = some (.cells cs T (0, 0))
theorem Blk.at {w : World} {b : Nat} {T : TypeId} {cs : Array Value} (h : Blk w b T cs) (j : Nat) (u : Value) (hj : cs[j]? = some u) : w.cell? ⟨b, j, none⟩ = some u := by
  rw [cell_of_row w b j cs T (0, 0) h]
  exact hj
theorem Blk.thaw {w : World} {b : Nat} {T : TypeId} {cs : Array Value} (h : Blk w b T cs) (j : Nat) : w.frozen? ⟨b, j, none⟩ = false := frozen_of_row w b j cs T h
theorem Blk.low {w : World} {b : Nat} {T : TypeId} {cs : Array Value} (h : Blk w b T cs) : b < w.heap.size := (Array.getElem?_eq_some_iff.1 h).1
theorem Blk.new (w : World) (T : TypeId) (cs : Array Value) : Blk (w.alloc (.cells cs T)) w.heap.size T cs := by
  show (w.heap.push _)[w.heap.size]? = _
  rw [Array.getElem?_push_size]
theorem Blk.new1 (w : World) (o : Obj) (T : TypeId) (cs : Array Value) : Blk ((w.alloc o).alloc (.cells cs T)) (w.heap.size + 1) T cs := by
  have := Blk.new (w.alloc o) T cs
  simpa using this
theorem Blk.keep {w w' : World} {b : Nat} {T : TypeId} {cs : Array Value} (h : Blk w b T cs) {B : Nat} (hb : Below B w w') (l : b < B) : Blk w' b T cs := (hb.block b l).trans h
theorem Blk.kept {w w' : World} {b : Nat} {T : TypeId} {cs : Array Value} (h : Blk w b T cs) (hb : Below w.heap.size w w') : Blk w' b T cs := (hb.block b h.low).trans h
theorem Blk.grown {w w' : World} {b : Nat} {T : TypeId} {cs : Array Value} {r : Option Nat} (h : Blk w b T cs) (hb : w.grownBy w' r) (ne : some b ≠ r) : Blk w' b T cs := (hb.block b h.low ne).trans h
theorem Blk.out {O : Nat → Prop} {w w' : World} {b : Nat} {T : TypeId} {cs : Array Value} (h : Blk w b T cs) (ho : OutP O w w') (hn : ¬ O b) : Blk w' b T cs := (ho.block b h.low hn).trans h
theorem Blk.other {w : World} {b q : Nat} {T : TypeId} {cs : Array Value} (h : Blk w b T cs) (ne : b ≠ q) (o : Nat) (u : Value) : Blk (w.setCell ⟨q, o, none⟩ u) b T cs := (Below.heap_setCell w ⟨q, o, none⟩ u b ne).trans h
theorem Blk.set {w : World} {b : Nat} {T : TypeId} {cs : Array Value} (h : Blk w b T cs) (j : Nat) (u : Value) : Blk (w.setCell ⟨b, j, none⟩ u) b T (cs.setIfInBounds j u) := heap_setCell_same w b j cs T u h
theorem Blk.drew {w : World} {b : Nat} {T : TypeId} {cs : Array Value} (h : Blk w b T cs) : Blk w.drew b T cs := h
/-- three cells -/
theorem Blk.at3 {w : World} {b : Nat} {T : TypeId} {v0 v1 v2 : Value} (h : Blk w b T #[v0, v1, v2]) : w.cell? ⟨b, 0, none⟩ = some v0 ∧ w.cell? ⟨b, 1, none⟩ = some v1 ∧ w.cell? ⟨b, 2, none⟩ = some v2 ∧ w.frozen? ⟨b, 0, none⟩ = false ∧ w.frozen? ⟨b, 1, none⟩ = false ∧ w.frozen? ⟨b, 2, none⟩ = false ∧ b < w.heap.size :=
  ⟨h.at 0 _ rfl, h.at 1 _ rfl, h.at 2 _ rfl, h.thaw _, h.thaw _, h.thaw _, h.low⟩
theorem Blk.at2 {w : World} {b : Nat} {T : TypeId} {v0 v1 : Value} (h : Blk w b T #[v0, v1]) : w.cell? ⟨b, 0, none⟩ = some v0 ∧ w.cell? ⟨b, 1, none⟩ = some v1 ∧ w.frozen? ⟨b, 0, none⟩ = false ∧ w.frozen? ⟨b, 1, none⟩ = false ∧ b < w.heap.size :=
  ⟨h.at 0 _ rfl, h.at 1 _ rfl, h.thaw _, h.thaw _, h.low⟩
theorem Blk.at4 {w : World} {b : Nat} {T : TypeId} {v0 v1 v2 v3 : Value} (h : Blk w b T #[v0, v1, v2, v3]) : w.cell? ⟨b, 0, none⟩ = some v0 ∧ w.cell? ⟨b, 1, none⟩ = some v1 ∧ w.cell? ⟨b, 2, none⟩ = some v2 ∧ w.cell? ⟨b, 3, none⟩ = some v3 ∧ w.frozen? ⟨b, 0, none⟩ = false ∧ w.frozen? ⟨b, 1, none⟩ = false ∧ w.frozen? ⟨b, 2, none⟩ = false ∧ w.frozen? ⟨b, 3, none⟩ = false ∧ b < w.heap.size :=
  ⟨h.at 0 _ rfl, h.at 1 _ rfl, h.at 2 _ rfl, h.at 3 _ rfl, h.thaw _, h.thaw _, h.thaw _, h.thaw _, h.low⟩
theorem OutP.seti {O : Nat → Prop} {w w1 : World} (h : OutP O w w1) (a : Addr) (ha : O a.block) (u : Value) : OutP O w (w1.setCell a u) :=
  ⟨h.os, h.tape, h.output, by simpa [World.setCell] using h.size, fun b hb hn => (Below.heap_setCell w1 a u b (fun e => hn (by rw [e]; exact ha))).trans (h.block b hb hn)⟩
theorem OutP.drew {O : Nat → Prop} {w w1 : World} (h : OutP O w w1) : OutP O w w1.drew := ⟨h.os, h.tape, h.output, h.size, h.block⟩
theorem OutP.set3 (w : World) (g : Nat) (a b c : Value) : OutP (fun k => k = g) w (((w.setCell ⟨g, 0, none⟩ a).setCell ⟨g, 1, none⟩ b).setCell ⟨g, 2, none⟩ c) :=
  (((OutP.refl (fun k => k = g) w).seti ⟨g, 0, none⟩ rfl a).seti ⟨g, 1, none⟩ rfl b).seti ⟨g, 2, none⟩ rfl c
end Go.Proofs.YtnegjbkbfgkkjaaGreatDoor
