/- Walks: Read of any text. (Written by mk_re.py.) -/
import Derived.Test.YthpjejfgoohhfaaGreatDoorG35
namespace Go.Proofs.YthpjejfgoohhfaaGreatDoor
open Go.RowKit Go.MapKept

/-- what Read hands back -/
def PostRd (f : Int × XT) (w : World) (e : Ending) (w' : World) : Prop :=
  Below w.heap.size w w' ∧ ∃ cs at', e = .returned (.tuple #[.agg cs, .agg #[.int .i64 f.1, .int .i64 at']]) ∧ X9 cs ∧ (f.1 = 0 → XB (w.heap.size ≤ ·) w' f.2 cs)

theorem V9.drewX {w : World} {b : Nat} {v0 v1 v2 v3 v4 v5 v6 v7 v8 : Value} (h : V9 w b v0 v1 v2 v3 v4 v5 v6 v7 v8) : V9 w.drew b v0 v1 v2 v3 v4 v5 v6 v7 v8 := h.keep (B := w.heap.size) (Below.refl _ _).drew h.low
theorem Bx2.drewX {w : World} {b : Nat} {u v : Value} (h : Bx2 w b u v) : Bx2 w.drew b u v := h.keep (B := w.heap.size) (Below.refl _ _).drew h.low
/-- a reader in a block of four cells that were stored -/
theorem RD.of {w F : World} {R g m c : Nat} {p : Option Addr} {l : List Tk} {e : Int} (hb : But R w F) (hR : R < F.heap.size) (hB : ∃ B, B ≤ R ∧ B ≤ w.heap.size ∧ TabsIn B w) (c0 : F.cell? ⟨R, 0, none⟩ = some (.slice p l.length c)) (c1 : F.cell? ⟨R, 1, none⟩ = some (.int .i64 e)) (c2 : F.cell? ⟨R, 2, none⟩ = some (.int .i64 0)) (c3 : F.cell? ⟨R, 3, none⟩ = some (.map (some m)))
    (f0 : F.frozen? ⟨R, 0, none⟩ = false) (f2 : F.frozen? ⟨R, 2, none⟩ = false) (hc : l.length ≤ c) (hp : 0 < l.length → p = some ⟨g, 0, none⟩) (hT : TKS w g l) (hm : MapF m sgnV w) (hl : l.length ≤ 4000) (htx : ∀ t ∈ l, t.t.length ≤ 4000) (hg : g ≠ R) (hmR : m ≠ R) : RD F R g m l e 0 0 := by
  obtain ⟨B0, hB0, hB1, htab⟩ := hB
  exact ⟨⟨hR, Nat.zero_le _, ⟨p, c, c0, fun q => by rw [hp q, Nat.zero_mul], by omega⟩, c1, f0⟩, hT.but hb hg, hg, hmR, c2, f2, c3, hm.but hb hmR, hl, ⟨B0, hB0, htab.below (hb.below hB0 hB1)⟩, fun t ht => by have := htx t ht; omega⟩
abbrev zero4 : Array Value := #[.slice none 0 0, .int .i64 0, .int .i64 0, .map none]
theorem four_of {wx w3 : World} {b : Nat} {t : TypeId} (hb : Below wx.heap.size wx w3) (h : wx.heap[b]? = some (.cells zero4 t (0, 0))) : w3.cell? ⟨b, 0, none⟩ = some (.slice none 0 0) ∧ w3.cell? ⟨b, 1, none⟩ = some (.int .i64 0) ∧ w3.cell? ⟨b, 2, none⟩ = some (.int .i64 0) ∧ w3.cell? ⟨b, 3, none⟩ = some (.map none) ∧ w3.frozen? ⟨b, 0, none⟩ = false ∧ w3.frozen? ⟨b, 1, none⟩ = false ∧ w3.frozen? ⟨b, 2, none⟩ = false ∧ w3.frozen? ⟨b, 3, none⟩ = false ∧ b < w3.heap.size := by
  have l := (Array.getElem?_eq_some_iff.1 h).1
  have h3 : w3.heap[b]? = some (.cells zero4 t (0, 0)) := (hb.block b l).trans h
  exact ⟨by simp [World.cell?, h3], by simp [World.cell?, h3], by simp [World.cell?, h3], by simp [World.cell?, h3], by simp [World.frozen?, h3], by simp [World.frozen?, h3], by simp [World.frozen?, h3], by simp [World.frozen?, h3], Nat.lt_of_lt_of_le l hb.size⟩
/-- the end: both results stored -/
def finW (W : World) (b : Nat) (v0 v1 v2 v3 v4 v5 v6 v7 v8 x y : Value) : World := ((put9 W b v0 v1 v2 v3 v4 v5 v6 v7 v8).setCell ⟨b + 1, 0, none⟩ x).setCell ⟨b + 1, 1, none⟩ y
section
variable {w W : World} {b : Nat} {v0 v1 v2 v3 v4 v5 v6 v7 v8 x y u u' : Value}
theorem fin_but : But (b + 1) (put9 W b v0 v1 v2 v3 v4 v5 v6 v7 v8) (finW W b v0 v1 v2 v3 v4 v5 v6 v7 v8 x y) := But.set.trans But.set
theorem fin_v9 (K : K9 W b) : V9 (finW W b v0 v1 v2 v3 v4 v5 v6 v7 v8 x y) b v0 v1 v2 v3 v4 v5 v6 v7 v8 := by
  have h : V9 (put9 W b v0 v1 v2 v3 v4 v5 v6 v7 v8) b v0 v1 v2 v3 v4 v5 v6 v7 v8 := ⟨(K9.self K).low, (Nine.put9 K).tell⟩
  exact h.but fin_but (by omega)
theorem fin_bx (h : Bx2 W (b + 1) u u') : Bx2 (finW W b v0 v1 v2 v3 v4 v5 v6 v7 v8 x y) (b + 1) x y := by
  have p : But b W (put9 W b v0 v1 v2 v3 v4 v5 v6 v7 v8) := put9_but
  have h2 : Bx2 (put9 W b v0 v1 v2 v3 v4 v5 v6 v7 v8) (b + 1) u u' := ⟨Nat.lt_of_lt_of_le h.low p.size, (p.cell (q := ⟨b + 1, 0, none⟩) h.low (by simp)).trans h.at0, (p.cell (q := ⟨b + 1, 1, none⟩) h.low (by simp)).trans h.at1, (p.frozen (q := ⟨b + 1, 0, none⟩) h.low (by simp)).trans h.th0, (p.frozen (q := ⟨b + 1, 1, none⟩) h.low (by simp)).trans h.th1⟩
  exact h2.put x y
theorem fin_below (h : Below w.heap.size w W) (hb : w.heap.size ≤ b) : Below w.heap.size w (finW W b v0 v1 v2 v3 v4 v5 v6 v7 v8 x y) :=
  ((h.trans (put9_below hb)).setCell (p := ⟨b + 1, 0, none⟩) (by simp only; omega) x).setCell (p := ⟨b + 1, 1, none⟩) (by simp only; omega) y
theorem fin_xb {X : XT} {cs : Array Value} {n : Nat} (h : XB (n ≤ ·) W X cs) (hn : b + 1 < n) (hw : w.heap.size ≤ n) : XB (w.heap.size ≤ ·) (finW W b v0 v1 v2 v3 v4 v5 v6 v7 v8 x y) X cs := by
  have p : But b W (put9 W b v0 v1 v2 v3 v4 v5 v6 v7 v8) := put9_but
  have f : But (b + 1) (put9 W b v0 v1 v2 v3 v4 v5 v6 v7 v8) (finW W b v0 v1 v2 v3 v4 v5 v6 v7 v8 x y) := fin_but
  have h1 := h.stay p.size fun k hk (hp : n ≤ k) => p.block k hk (by omega)
  have h2 := h1.stay f.size fun k hk (hp : n ≤ k) => f.block k hk (by omega)
  exact h2.mono fun k _ (hp : n ≤ k) => by omega
end

theorem res_read {W : World} {b c : Nat} {v0 v1 v2 v3 v4 v5 v6 v7 v8 x0 x1 : Value} (tmps : Array Value) (K : V9 W b v0 v1 v2 v3 v4 v5 v6 v7 v8) (L : Bx2 W c x0 x1) (h2 : tmps.getD 2 undef = .pointer (some ⟨b, 0, none⟩)) (h3 : tmps.getD 3 undef = .pointer (some ⟨c, 0, none⟩)) :
    (results Tryz.f7 tmps).run Tryz.prog W = .ok (.tuple #[.agg #[v0, v1, v2, v3, v4, v5, v6, v7, v8], .agg #[x0, x1]]) W := by
  obtain ⟨c0, c1, c2, c3, c4, c5, c6, c7, c8⟩ := K.tell
  have l0 := L.at0
  have l1 := L.at1
  simp only [Array.getD_eq_getD_getElem?] at h2 h3
  simp [results, Tryz.results7, go_sem, h2, h3, c0, c1, c2, c3, c4, c5, c6, c7, c8, l0, l1]

set_option maxRecDepth 100000 in
set_option maxHeartbeats 16000000 in
theorem read_any (s : ByteArray) (w : World) (hE : RE w) : Calls Tryz.prog 7 #[.string s] w (PostRd (readF s.data.toList) w) := by
  obtain ⟨w0, hw0⟩ : ∃ w0, w0 = (w.alloc (.cells zero9 29)).alloc (.cells #[.int .i64 0, .int .i64 0] 35) := ⟨_, rfl⟩
  have B0 : Below w.heap.size w w0 := by rw [hw0]; exact below_via (vbelow_new _ _) (vbelow_new _ _)
  have K0 : K9 w0 w.heap.size := by rw [hw0]; exact (K9.new w 29 _ _ _ _ _ _ _ _ _).keep (vbelow_new _ _)
  have V0 : V9 w0 w.heap.size (.int .i64 0) (.int .i64 0) (.bool false) (.int .i64 0) (.int .i64 0) (.string ⟨#[]⟩) (.slice none 0 0) (.string ⟨#[]⟩) (.slice none 0 0) := by rw [hw0]; exact (V9.new w 29 _ _ _ _ _ _ _ _ _).keep (vbelow_new _ _) (by simp)
  have F0 : Bx2 w0 (w.heap.size + 1) (.int .i64 0) (.int .i64 0) := by rw [hw0]; have := Bx2.new (w.alloc (.cells zero9 29)) 35 (.int .i64 0) (.int .i64 0); simpa using this
  have z0 : w0.heap.size = w.heap.size + 2 := by rw [hw0]; simp
  have OV := hide (over_txt s w0 (hE.keep B0).lt (hE.keep B0).sg)
  have HRE := hide (hE.keep B0)
  have HK0 := hide K0
  have HV0 := hide V0
  have HF0 := hide F0
  have HB0 := hide B0
  have HZ := hide z0
  obtain ⟨final, hfin⟩ : ∃ final, final = readF s.data.toList := ⟨_, rfl⟩
  rw [← hfin]
  have HFN := hide hfin
  clear K0 V0 F0 B0 z0 hE hfin
  go_enter Tryz.func7, Tryz.ntmps7
  go_upto_region 1 with fail
  rw [← hw0]
  clear hw0
  go_wp2_with fail
  refine (unhide OV).mono ?_
  rintro en w1 ⟨hb1, hp⟩
  have hz0 := unhide HZ
  have hz1 := hb1.size
  have HK1 := hide ((unhide HK0).keep hb1)
  have HF1 := hide ((unhide HF0).keep hb1 (by omega))
  have HR1 := hide ((unhide HRE).keep hb1)
  have HB1 := hide (below_via (unhide HB0) hb1)
  have HZ1 : Hid (w.heap.size + 2 ≤ w1.heap.size) := hide (by omega)
  have HSM := hide (toksF_small s.data.toList)
  clear hz0 hz1 OV HRE HK0 HV0 HF0 HB0 HZ
  by_cases q : (toksF s.data.toList).2.1 = 0
  · rw [if_pos q] at hp
    obtain ⟨p, c, g, rfl, hc, hpp, ht⟩ := hp
    obtain ⟨hlen, htx⟩ := unhide HSM q
    have HFQ : Hid (final = (let r := wholeF (toksF s.data.toList).1 ((ps (toksF s.data.toList).1 vwF (12 * (toksF s.data.toList).1.length + 11)).E 0 0)
      if r.1 ≠ 0 then (r.1, noX) else if (xwF nameB vwF r.2.1 0 1).1 ≠ 0 then (4, noX) else (0, r.2.1))) := hide (by rw [unhide HFN, readF, if_neg (fun c => c q)])
    clear q HFN HSM
    generalize (toksF s.data.toList).1 = l at *
    obtain ⟨n, hn⟩ : ∃ n, n = l.length := ⟨_, rfl⟩
    obtain ⟨w2, hw2⟩ : ∃ w2, w2 = (w1.alloc (.cells #[.slice p n c, .int .i64 (s.size : Int)] 56)).alloc (.cells #[.int .i64 0, .int .i64 0] 35) := ⟨_, rfl⟩
    rw [← hn] at hpp hc ⊢
    have B2 : Below w1.heap.size w1 w2 := by rw [hw2]; exact below_via (vbelow_new _ _) (vbelow_new _ _)
    have E2 : Bx2 w2 (w1.heap.size + 1) (.int .i64 0) (.int .i64 0) := by rw [hw2]; have := Bx2.new (w1.alloc (.cells #[.slice p n c, .int .i64 (s.size : Int)] 56)) 35 (.int .i64 0) (.int .i64 0); simpa using this
    have L2 : Bx2 w2 w1.heap.size (.slice p n c) (.int .i64 (s.size : Int)) := by rw [hw2]; exact (Bx2.new w1 56 _ _).keep (vbelow_new _ _) (by simp)
    have HK2 := hide ((unhide HK1).keep B2)
    have HF2 := hide ((unhide HF1).keep B2 (by have := unhide HZ1; omega))
    have HB2 := hide (below_via (unhide HB1) B2)
    have HR2 := hide ((unhide HR1).keep B2)
    have HT2 := hide (ht.keep B2 ht.low)
    have HL2 := hide L2
    have HC := hide hc
    have HPP := hide hpp
    have HN := hide hn
    have HLEN := hide hlen
    have HTX := hide htx
    have HZ2 : Hid (w.heap.size + 2 ≤ w2.heap.size ∧ w1.heap.size < w2.heap.size) := hide ⟨by have := unhide HZ1; have := B2.size; omega, L2.low⟩
    have e0 := E2.at0
    have e1 := E2.at1
    have l0 := L2.at0
    have l1 := L2.at1
    have BA : Below w2.heap.size w2 (w2.alloc (.cells zero4 64)).drew := (vbelow_new w2 _).drew
    have SGA : Hid (Calls Tryz.prog 16 #[] ((w2.alloc (.cells zero4 64)).drew) (fun e w3 => (e = .returned (.map (some ((w2.alloc (.cells zero4 64)).drew).heap.size)) ∧ MapF (w2.alloc (.cells zero4 64)).drew.heap.size sgnV w3 ∧ Below w2.heap.size w2 w3) ∧ (w3.cell? ⟨w2.heap.size, 0, none⟩ = some (.slice none 0 0) ∧ w3.cell? ⟨w2.heap.size, 1, none⟩ = some (.int .i64 0) ∧ w3.cell? ⟨w2.heap.size, 2, none⟩ = some (.int .i64 0) ∧ w3.cell? ⟨w2.heap.size, 3, none⟩ = some (.map none) ∧ w3.frozen? ⟨w2.heap.size, 0, none⟩ = false ∧ w3.frozen? ⟨w2.heap.size, 1, none⟩ = false ∧ w3.frozen? ⟨w2.heap.size, 2, none⟩ = false ∧ w3.frozen? ⟨w2.heap.size, 3, none⟩ = false ∧ w2.heap.size < w3.heap.size))) := hide ((signs_any _ ((unhide HR2).keep BA).sy).mono fun e w3 q => ⟨⟨q.1, q.2.1, below_via BA q.2.2⟩, four_of q.2.2 (heap_alloc_new w2 _)⟩)
    have SGB : Hid (Calls Tryz.prog 16 #[] w2.drew (fun e w3 => e = .returned (.map (some w2.drew.heap.size)) ∧ MapF w2.drew.heap.size sgnV w3 ∧ Below w2.heap.size w2 w3)) := hide ((signs_any w2.drew ((unhide HR2).keep (Below.refl w2.heap.size w2).drew).sy).mono fun e w3 q => ⟨q.1, q.2.1, below_via (Below.refl w2.heap.size w2).drew q.2.2⟩)
    clear B2 E2 L2 BA hb1 HR1 HK1 HF1 HB1 ht hc hpp hn hlen htx
    go_upto_region 2 with fail
    rw [← hw2]
    clear hw2
    go_upto_region 4 with fail
    have ne1 : ¬ w1.heap.size = w2.heap.size := by have := (unhide HZ2).2; omega
    go_region_held2 (fun w' => w'.cell? ⟨w1.heap.size, 0, none⟩ = some (.slice p n c) ∧ w'.cell? ⟨w1.heap.size, 1, none⟩ = some (.int .i64 (s.size : Int))) (first | go_keep | exact ⟨((unhide HL2).keep (by repeat (first | assumption | with_reducible exact Below.refl _ _ | with_reducible apply Below.drew | (refine Below.setCell ?_ (by first | exact Nat.le_refl _ | exact Below.size (by assumption)) _) | (refine Below.alloc ?_ (by first | exact Nat.le_refl _ | exact Below.size (by assumption)) _))) (unhide HZ2).2).at0, ((unhide HL2).keep (by repeat (first | assumption | with_reducible exact Below.refl _ _ | with_reducible apply Below.drew | (refine Below.setCell ?_ (by first | exact Nat.le_refl _ | exact Below.size (by assumption)) _) | (refine Below.alloc ?_ (by first | exact Nat.le_refl _ | exact Below.size (by assumption)) _))) (unhide HZ2).2).at1⟩)
      (first | (go_at_call 16; (with_reducible refine (unhide SGA).mono ?_); rintro en w3 ⟨⟨rfl, hmf, hbb⟩, r0, r1, r2, r3, rf0, rf1, rf2, rf3, rl⟩; have m0 := ((unhide HL2).keep hbb (unhide HZ2).2).at0; have m1 := ((unhide HL2).keep hbb (unhide HZ2).2).at1) | (go_at_call 16; (with_reducible refine (unhide SGB).mono ?_); rintro en w3 ⟨rfl, hmf, hbb⟩; have m0 := ((unhide HL2).keep hbb (unhide HZ2).2).at0; have m1 := ((unhide HL2).keep hbb (unhide HZ2).2).at1))
    · have HRD : Hid (RD (w3.alloc (.cells #[.slice p n c, .int .i64 (s.size : Int), .int .i64 0, .map (some w2.heap.size)] 64)) w3.heap.size g w2.heap.size l (s.size : Int) 0 0) := hide (by
        have hn := unhide HN
        subst hn
        exact RD.make ((unhide HR2).keep hbb) (unhide HC) (unhide HPP) ((unhide HT2).keep hbb (unhide HT2).low) hmf (unhide HLEN) (unhide HTX) rfl)
      have HB4 : Hid (Below w2.heap.size w2 (w3.alloc (.cells #[.slice p n c, .int .i64 (s.size : Int), .int .i64 0, .map (some w2.heap.size)] 64))) := hide (below_via hbb (vbelow_new _ _))
      have HRR : Hid (w2.heap.size ≤ w3.heap.size) := hide hbb.size
      clear hmf hbb m0 m1 SGA SGB ne1 e0 e1 l0 l1
      generalize w3.alloc (.cells #[.slice p n c, .int .i64 (s.size : Int), .int .i64 0, .map (some w2.heap.size)] 64) = w4 at HRD HB4 ⊢
      generalize w3.heap.size = R at HRD HRR ⊢
      generalize w2.heap.size = mm at HRD
      obtain ⟨rr, hrr⟩ : ∃ rr, rr = wholeF l ((ps l vwF (12 * l.length + 11)).E 0 0) := ⟨_, rfl⟩
      have WH := hide (whole_any (unhide HRD) _ (fun W hW => (read_all R g mm l (s.size : Int) (12 * l.length + 11)).E 0 0 W (by omega) (by omega) hW))
      rw [← hrr] at WH
      have HFR : Hid (final = if rr.1 ≠ 0 then (rr.1, noX) else if (xwF nameB vwF rr.2.1 0 1).1 ≠ 0 then (4, noX) else (0, rr.2.1)) := hide (by rw [hrr]; exact unhide HFQ)
      clear hrr HFQ HT2 HL2 HC HPP HN HLEN HTX
      go_wp2_with fail
      refine (unhide WH).mono ?_
      rintro en w5 ⟨hb5, cs, err, j, rfl, h9, hr5, hij, hres⟩
      obtain ⟨k, vk, vy, vc, vx, vt, va, vn, vp, ss, xa, xn, xc, rfl⟩ := h9
      have hB25 : Below w2.heap.size w2 w5 := (unhide HB4).trans (hb5.below (unhide HRR) (unhide HB4).size)
      obtain ⟨w7, hw7⟩ : ∃ w7, w7 = (w5.alloc (.cells #[.int .i64 k, .int .i64 vk, .bool vy, .int .i64 vc, .int .i64 vx, .string vt, .slice va vn vp, .string ss, .slice xa xn xc] 29)).alloc (.cells #[.int .i64 0, .int .i64 0] 70) := ⟨_, rfl⟩
      have B7 : Below w5.heap.size w5 w7 := by rw [hw7]; exact below_via (vbelow_new _ _) (vbelow_new _ _)
      have V7 : V9 w7 w5.heap.size (.int .i64 k) (.int .i64 vk) (.bool vy) (.int .i64 vc) (.int .i64 vx) (.string vt) (.slice va vn vp) (.string ss) (.slice xa xn xc) := by rw [hw7]; exact (V9.new w5 29 (.int .i64 k) (.int .i64 vk) (.bool vy) (.int .i64 vc) (.int .i64 vx) (.string vt) (.slice va vn vp) (.string ss) (.slice xa xn xc)).keep (vbelow_new _ _) (by simp)
      have Q7 : Bx2 w7 (w5.heap.size + 1) (.int .i64 0) (.int .i64 0) := by rw [hw7]; have := Bx2.new (w5.alloc (.cells #[.int .i64 k, .int .i64 vk, .bool vy, .int .i64 vc, .int .i64 vx, .string vt, .slice va vn vp, .string ss, .slice xa xn xc] 29)) 70 (.int .i64 0) (.int .i64 0); simpa using this
      have hB27 : Below w2.heap.size w2 w7 := hB25.trans (B7.mono hB25.size)
      have HB27 := hide hB27
      have HR7 := hide ((unhide HR2).keep hB27)
      have HZ5 : Hid (w2.heap.size ≤ w5.heap.size) := hide hB25.size
      have HZ4 : Hid (w.heap.size + 1 < w4.heap.size) := hide (by have := (unhide HB4).size; have := (unhide HZ2).1; omega)
      by_cases q : rr.1 = 0
      case pos =>
        rw [if_pos q] at hres
        obtain ⟨rfl, rfl, hxb⟩ := hres
        have HX7 := hide (hxb.keep B7)
        have HE2 : Hid (final = if (xwF nameB vwF rr.2.1 0 1).1 ≠ 0 then (4, noX) else (0, rr.2.1)) := hide (by rw [unhide HFR, if_neg (fun c => c q)])
        have AS := hide (as_nil (.iface 72 (.pointer (some ⟨w5.heap.size + 1, 0, none⟩))) w7)
        have SW := hide (synWrong_any (envR w7.heap.size) rr.2.1 _ w7 (unhide HX7).mem (Nat.le_refl _) (unhide HR7).gd)
        obtain ⟨xe, hxe⟩ : ∃ xe, xe = (xwF nameB vwF rr.2.1 0 1).1 := ⟨_, rfl⟩
        rw [← hxe] at SW HE2
        obtain ⟨a0, a1, a2, a3, a4, a5, a6, a7, a8⟩ := V7.tell
        have HV7 := hide V7
        clear q hxb hb5 hr5 hij B7 V7 Q7 hB25 hB27 WH HFR hxe HR7
        go_upto_region 7 with fail
        rw [← hw7]
        clear hw7
        go_wp2_with fail
        refine (unhide AS).mono ?_
        rintro en w7' ⟨rfl, hww⟩
        subst hww
        go_wp2_with fail
        refine (unhide SW).mono ?_
        rintro en w8 ⟨rfl, hb8⟩
        have hB28 : Below w2.heap.size w2 w8 := (unhide HB27).trans (hb8.mono (unhide HB27).size)
        have HK8 := hide ((unhide HK2).keep hB28)
        have HF8 := hide ((unhide HF2).keep hB28 (by have := (unhide HZ2).1; omega))
        have HB8 := hide (below_via (unhide HB2) hB28)
        have HX8 := hide ((unhide HX7).keep hb8)
        obtain ⟨d0, d1, d2, d3, d4, d5, d6, d7, d8⟩ := ((unhide HV7).keep hb8 (unhide HV7).low).tell
        obtain ⟨u0, u1, u2, u3, u4, u5, u6, u7, u8, c0, c1, c2, c3, c4, c5, c6, c7, c8, f⟩ := (unhide HK8).all
        have k8 := (unhide HK8).low
        obtain ⟨fl, f0, f1, ff0, ff1⟩ := id (unhide HF8)
        clear hb8 hB28 AS SW
        by_cases qe : xe = 0
        · have gq : (xe != 0) = false := by simpa using qe
          have HE3 : Hid (final = (0, rr.2.1)) := hide (by rw [unhide HE2, if_neg (fun c => c qe)])
          clear qe HE2
          go_wp2
          have XV := (fin_v9 (x := .int .i64 0) (y := .int .i64 0) (v0 := .int .i64 k) (v1 := .int .i64 vk) (v2 := .bool vy) (v3 := .int .i64 vc) (v4 := .int .i64 vx) (v5 := .string vt) (v6 := .slice va vn vp) (v7 := .string ss) (v8 := .slice xa xn xc) (unhide HK8))
          have XF := (fin_bx (x := .int .i64 0) (y := .int .i64 0) (v0 := .int .i64 k) (v1 := .int .i64 vk) (v2 := .bool vy) (v3 := .int .i64 vc) (v4 := .int .i64 vx) (v5 := .string vt) (v6 := .slice va vn vp) (v7 := .string ss) (v8 := .slice xa xn xc) (unhide HF8))
          have XW := (fin_below (x := .int .i64 0) (y := .int .i64 0) (v0 := .int .i64 k) (v1 := .int .i64 vk) (v2 := .bool vy) (v3 := .int .i64 vc) (v4 := .int .i64 vx) (v5 := .string vt) (v6 := .slice va vn vp) (v7 := .string ss) (v8 := .slice xa xn xc) (unhide HB8) (Nat.le_refl _))
          have XBB := fin_xb (w := w) (x := .int .i64 0) (y := .int .i64 0) (v0 := .int .i64 k) (v1 := .int .i64 vk) (v2 := .bool vy) (v3 := .int .i64 vc) (v4 := .int .i64 vx) (v5 := .string vt) (v6 := .slice va vn vp) (v7 := .string ss) (v8 := .slice xa xn xc) (unhide HX8) (unhide HZ4) (by have := unhide HZ4; omega)
          unfold finW put9 at XV XF XW XBB
          refine bodyPost_ret (res_read _ XV XF rfl rfl) rfl ⟨XW, _, _, by rw [unhide HE3], ⟨_, _, _, _, _, _, _, _, _, _, _, _, _, rfl⟩, fun _ => by rw [unhide HE3]; exact XBB⟩
        · have gq : (xe != 0) = true := by simpa using qe
          have HE3 : Hid (final = (4, noX)) := hide (by rw [unhide HE2, if_pos qe])
          clear qe HE2
          go_wp2
          have XV := (fin_v9 (x := .int .i64 4) (y := .int .i64 0) (v0 := .int .i64 0) (v1 := .int .i64 0) (v2 := .bool false) (v3 := .int .i64 0) (v4 := .int .i64 0) (v5 := .string ⟨#[]⟩) (v6 := .slice none 0 0) (v7 := .string ⟨#[]⟩) (v8 := .slice none 0 0) (unhide HK8))
          have XF := (fin_bx (x := .int .i64 4) (y := .int .i64 0) (v0 := .int .i64 0) (v1 := .int .i64 0) (v2 := .bool false) (v3 := .int .i64 0) (v4 := .int .i64 0) (v5 := .string ⟨#[]⟩) (v6 := .slice none 0 0) (v7 := .string ⟨#[]⟩) (v8 := .slice none 0 0) (unhide HF8))
          have XW := (fin_below (x := .int .i64 4) (y := .int .i64 0) (v0 := .int .i64 0) (v1 := .int .i64 0) (v2 := .bool false) (v3 := .int .i64 0) (v4 := .int .i64 0) (v5 := .string ⟨#[]⟩) (v6 := .slice none 0 0) (v7 := .string ⟨#[]⟩) (v8 := .slice none 0 0) (unhide HB8) (Nat.le_refl _))
          unfold finW put9 at XV XF XW
          refine bodyPost_ret (res_read _ XV XF rfl rfl) rfl ⟨XW, _, _, by rw [unhide HE3], ⟨_, _, _, _, _, _, _, _, _, _, _, _, _, rfl⟩, fun cc => absurd cc (by rw [unhide HE3]; simp)⟩
      case neg =>
        rw [if_neg q] at hres
        obtain ⟨at1, rfl⟩ := hres
        have HE2 : Hid (final = (rr.1, noX)) := hide (by rw [unhide HFR, if_pos q])
        have HQ := hide q
        have hql : w2.heap.size ≤ w5.heap.size + 1 := by have := unhide HZ5; omega
        have AS : Hid (Calls Tryz.prog 18 #[.iface 70 (.agg #[.int .i64 rr.1, .int .i64 at1]), .iface 72 (.pointer (some ⟨w5.heap.size + 1, 0, none⟩))] w7 (fun e w' => e = .returned (.bool true) ∧ Below w2.heap.size w2 w' ∧ Bx2 w' (w5.heap.size + 1) (.int .i64 rr.1) (.int .i64 at1))) := hide ((as_hit (w5.heap.size + 1) rr.1 at1 _ _ w7 (unhide HR7).et Q7.at0 Q7.at1 Q7.th0 Q7.th1).mono fun e w' hq => by
          obtain ⟨h1, h2⟩ := hq
          have ha : Below w7.heap.size w7 ((((w7.alloc (.cells #[.pointer (some ⟨w5.heap.size + 1, 0, none⟩)] 72)).alloc (.cells #[.pointer (some ⟨11, 72, none⟩), .pointer (some ⟨w7.heap.size, 0, none⟩), .int .u64 150] 94)).alloc (.cells #[.pointer (some ⟨11, 72, none⟩), .pointer (some ⟨w7.heap.size, 0, none⟩), .int .u64 150] 94)).alloc (.cells #[.int .i64 rr.1, .int .i64 at1] 70)) := below_via (below_via (below_via (vbelow_new _ _) (vbelow_new _ _)) (vbelow_new _ _)) (vbelow_new _ _)
          refine ⟨h1, ?_, ?_⟩
          · rw [h2]
            exact ((hB27.trans (ha.mono hB27.size)).setCell (p := ⟨w5.heap.size + 1, 0, none⟩) hql _).setCell (p := ⟨w5.heap.size + 1, 1, none⟩) hql _
          · rw [h2]
            exact (Q7.keep ha Q7.low).put _ _)
        generalize rr.1 = ec at AS HE2 HQ ⊢
        clear q hb5 hr5 hij B7 V7 Q7 hB25 hB27 WH HFR HR7 hql
        go_upto_region 7 with fail
        rw [← hw7]
        clear hw7
        go_wp2_with fail
        refine (unhide AS).mono ?_
        rintro en w8 ⟨rfl, hB28, E8⟩
        have HK8 := hide ((unhide HK2).keep hB28)
        have HF8 := hide ((unhide HF2).keep hB28 (by have := (unhide HZ2).1; omega))
        have HB8 := hide (below_via (unhide HB2) hB28)
        have e0 := E8.at0
        have e1 := E8.at1
        obtain ⟨u0, u1, u2, u3, u4, u5, u6, u7, u8, c0, c1, c2, c3, c4, c5, c6, c7, c8, f⟩ := (unhide HK8).all
        have k8 := (unhide HK8).low
        obtain ⟨fl, f0, f1, ff0, ff1⟩ := id (unhide HF8)
        have n1 : ¬ w.heap.size = w5.heap.size + 1 := by have := (unhide HZ2).1; have := unhide HZ5; omega
        have n2 : ¬ w.heap.size + 1 = w5.heap.size + 1 := by have := (unhide HZ2).1; have := unhide HZ5; omega
        clear hB28 E8 AS
        go_upto_region 8 with fail
        go_region
        go_wp2
        have XV := (fin_v9 (x := .int .i64 ec) (y := .int .i64 at1) (v0 := .int .i64 0) (v1 := .int .i64 0) (v2 := .bool false) (v3 := .int .i64 0) (v4 := .int .i64 0) (v5 := .string ⟨#[]⟩) (v6 := .slice none 0 0) (v7 := .string ⟨#[]⟩) (v8 := .slice none 0 0) (unhide HK8)).drewX
        have XF := (fin_bx (x := .int .i64 ec) (y := .int .i64 at1) (v0 := .int .i64 0) (v1 := .int .i64 0) (v2 := .bool false) (v3 := .int .i64 0) (v4 := .int .i64 0) (v5 := .string ⟨#[]⟩) (v6 := .slice none 0 0) (v7 := .string ⟨#[]⟩) (v8 := .slice none 0 0) (unhide HF8)).drewX
        have XW := (fin_below (x := .int .i64 ec) (y := .int .i64 at1) (v0 := .int .i64 0) (v1 := .int .i64 0) (v2 := .bool false) (v3 := .int .i64 0) (v4 := .int .i64 0) (v5 := .string ⟨#[]⟩) (v6 := .slice none 0 0) (v7 := .string ⟨#[]⟩) (v8 := .slice none 0 0) (unhide HB8) (Nat.le_refl _)).drew
        unfold finW put9 at XV XF XW
        refine bodyPost_ret (res_read _ XV XF rfl rfl) rfl ⟨XW, _, _, by rw [unhide HE2], ⟨_, _, _, _, _, _, _, _, _, _, _, _, _, rfl⟩, fun cc => absurd cc (by rw [unhide HE2]; exact unhide HQ)⟩
    · have HRD : Hid (RD ((((w3.setCell ⟨w2.heap.size, 0, none⟩ (.slice p n c)).setCell ⟨w2.heap.size, 1, none⟩ (.int .i64 (s.size : Int))).setCell ⟨w2.heap.size, 2, none⟩ (.int .i64 0)).setCell ⟨w2.heap.size, 3, none⟩ (.map (some (w2.heap.size + 1)))) w2.heap.size g (w2.heap.size + 1) l (s.size : Int) 0 0) := hide (by
        have hn := unhide HN
        subst hn
        obtain ⟨B, hB, htab⟩ := (unhide HR2).tb
        have hg := (unhide HT2).low
        refine RD.of (w := w3) (((But.set.trans But.set).trans But.set).trans But.set) (by simp [World.setCell]; omega) ⟨B, hB, Nat.le_trans hB hbb.size, htab.below (hbb.mono hB)⟩ ?_ ?_ ?_ ?_ ?_ ?_ (unhide HC) (unhide HPP) ((unhide HT2).keep hbb (unhide HT2).low) (by simpa using hmf) (unhide HLEN) (unhide HTX) (by omega) (by omega)
        all_goals simp [go_sem, r0, r1, r2, r3, rf0, rf2])
      have HB4 : Hid (Below w2.heap.size w2 ((((w3.setCell ⟨w2.heap.size, 0, none⟩ (.slice p n c)).setCell ⟨w2.heap.size, 1, none⟩ (.int .i64 (s.size : Int))).setCell ⟨w2.heap.size, 2, none⟩ (.int .i64 0)).setCell ⟨w2.heap.size, 3, none⟩ (.map (some (w2.heap.size + 1))))) := hide ((((hbb.setCell (p := ⟨w2.heap.size, 0, none⟩) (Nat.le_refl _) _).setCell (p := ⟨w2.heap.size, 1, none⟩) (Nat.le_refl _) _).setCell (p := ⟨w2.heap.size, 2, none⟩) (Nat.le_refl _) _).setCell (p := ⟨w2.heap.size, 3, none⟩) (Nat.le_refl _) _)
      have HRR : Hid (w2.heap.size ≤ w2.heap.size) := hide (Nat.le_refl _)
      clear hmf hbb m0 m1 SGA SGB ne1 e0 e1 l0 l1 r0 r1 r2 r3 rf0 rf1 rf2 rf3 rl
      generalize (((w3.setCell ⟨w2.heap.size, 0, none⟩ (.slice p n c)).setCell ⟨w2.heap.size, 1, none⟩ (.int .i64 (s.size : Int))).setCell ⟨w2.heap.size, 2, none⟩ (.int .i64 0)).setCell ⟨w2.heap.size, 3, none⟩ (.map (some (w2.heap.size + 1))) = w4 at HRD HB4 ⊢
      obtain ⟨R, hR⟩ : ∃ R, R = w2.heap.size := ⟨_, rfl⟩
      rw [← hR] at HRD ⊢
      replace HRR : Hid (w2.heap.size ≤ R) := hide (by omega)
      clear hR
      generalize R + 1 = mm at HRD
      obtain ⟨rr, hrr⟩ : ∃ rr, rr = wholeF l ((ps l vwF (12 * l.length + 11)).E 0 0) := ⟨_, rfl⟩
      have WH := hide (whole_any (unhide HRD) _ (fun W hW => (read_all R g mm l (s.size : Int) (12 * l.length + 11)).E 0 0 W (by omega) (by omega) hW))
      rw [← hrr] at WH
      have HFR : Hid (final = if rr.1 ≠ 0 then (rr.1, noX) else if (xwF nameB vwF rr.2.1 0 1).1 ≠ 0 then (4, noX) else (0, rr.2.1)) := hide (by rw [hrr]; exact unhide HFQ)
      clear hrr HFQ HT2 HL2 HC HPP HN HLEN HTX
      go_wp2_with fail
      refine (unhide WH).mono ?_
      rintro en w5 ⟨hb5, cs, err, j, rfl, h9, hr5, hij, hres⟩
      obtain ⟨k, vk, vy, vc, vx, vt, va, vn, vp, ss, xa, xn, xc, rfl⟩ := h9
      have hB25 : Below w2.heap.size w2 w5 := (unhide HB4).trans (hb5.below (unhide HRR) (unhide HB4).size)
      obtain ⟨w7, hw7⟩ : ∃ w7, w7 = (w5.alloc (.cells #[.int .i64 k, .int .i64 vk, .bool vy, .int .i64 vc, .int .i64 vx, .string vt, .slice va vn vp, .string ss, .slice xa xn xc] 29)).alloc (.cells #[.int .i64 0, .int .i64 0] 70) := ⟨_, rfl⟩
      have B7 : Below w5.heap.size w5 w7 := by rw [hw7]; exact below_via (vbelow_new _ _) (vbelow_new _ _)
      have V7 : V9 w7 w5.heap.size (.int .i64 k) (.int .i64 vk) (.bool vy) (.int .i64 vc) (.int .i64 vx) (.string vt) (.slice va vn vp) (.string ss) (.slice xa xn xc) := by rw [hw7]; exact (V9.new w5 29 (.int .i64 k) (.int .i64 vk) (.bool vy) (.int .i64 vc) (.int .i64 vx) (.string vt) (.slice va vn vp) (.string ss) (.slice xa xn xc)).keep (vbelow_new _ _) (by simp)
      have Q7 : Bx2 w7 (w5.heap.size + 1) (.int .i64 0) (.int .i64 0) := by rw [hw7]; have := Bx2.new (w5.alloc (.cells #[.int .i64 k, .int .i64 vk, .bool vy, .int .i64 vc, .int .i64 vx, .string vt, .slice va vn vp, .string ss, .slice xa xn xc] 29)) 70 (.int .i64 0) (.int .i64 0); simpa using this
      have hB27 : Below w2.heap.size w2 w7 := hB25.trans (B7.mono hB25.size)
      have HB27 := hide hB27
      have HR7 := hide ((unhide HR2).keep hB27)
      have HZ5 : Hid (w2.heap.size ≤ w5.heap.size) := hide hB25.size
      have HZ4 : Hid (w.heap.size + 1 < w4.heap.size) := hide (by have := (unhide HB4).size; have := (unhide HZ2).1; omega)
      by_cases q : rr.1 = 0
      case pos =>
        rw [if_pos q] at hres
        obtain ⟨rfl, rfl, hxb⟩ := hres
        have HX7 := hide (hxb.keep B7)
        have HE2 : Hid (final = if (xwF nameB vwF rr.2.1 0 1).1 ≠ 0 then (4, noX) else (0, rr.2.1)) := hide (by rw [unhide HFR, if_neg (fun c => c q)])
        have AS := hide (as_nil (.iface 72 (.pointer (some ⟨w5.heap.size + 1, 0, none⟩))) w7)
        have SW := hide (synWrong_any (envR w7.heap.size) rr.2.1 _ w7 (unhide HX7).mem (Nat.le_refl _) (unhide HR7).gd)
        obtain ⟨xe, hxe⟩ : ∃ xe, xe = (xwF nameB vwF rr.2.1 0 1).1 := ⟨_, rfl⟩
        rw [← hxe] at SW HE2
        obtain ⟨a0, a1, a2, a3, a4, a5, a6, a7, a8⟩ := V7.tell
        have HV7 := hide V7
        clear q hxb hb5 hr5 hij B7 V7 Q7 hB25 hB27 WH HFR hxe HR7
        go_upto_region 7 with fail
        rw [← hw7]
        clear hw7
        go_wp2_with fail
        refine (unhide AS).mono ?_
        rintro en w7' ⟨rfl, hww⟩
        subst hww
        go_wp2_with fail
        refine (unhide SW).mono ?_
        rintro en w8 ⟨rfl, hb8⟩
        have hB28 : Below w2.heap.size w2 w8 := (unhide HB27).trans (hb8.mono (unhide HB27).size)
        have HK8 := hide ((unhide HK2).keep hB28)
        have HF8 := hide ((unhide HF2).keep hB28 (by have := (unhide HZ2).1; omega))
        have HB8 := hide (below_via (unhide HB2) hB28)
        have HX8 := hide ((unhide HX7).keep hb8)
        obtain ⟨d0, d1, d2, d3, d4, d5, d6, d7, d8⟩ := ((unhide HV7).keep hb8 (unhide HV7).low).tell
        obtain ⟨u0, u1, u2, u3, u4, u5, u6, u7, u8, c0, c1, c2, c3, c4, c5, c6, c7, c8, f⟩ := (unhide HK8).all
        have k8 := (unhide HK8).low
        obtain ⟨fl, f0, f1, ff0, ff1⟩ := id (unhide HF8)
        clear hb8 hB28 AS SW
        by_cases qe : xe = 0
        · have gq : (xe != 0) = false := by simpa using qe
          have HE3 : Hid (final = (0, rr.2.1)) := hide (by rw [unhide HE2, if_neg (fun c => c qe)])
          clear qe HE2
          go_wp2
          have XV := (fin_v9 (x := .int .i64 0) (y := .int .i64 0) (v0 := .int .i64 k) (v1 := .int .i64 vk) (v2 := .bool vy) (v3 := .int .i64 vc) (v4 := .int .i64 vx) (v5 := .string vt) (v6 := .slice va vn vp) (v7 := .string ss) (v8 := .slice xa xn xc) (unhide HK8))
          have XF := (fin_bx (x := .int .i64 0) (y := .int .i64 0) (v0 := .int .i64 k) (v1 := .int .i64 vk) (v2 := .bool vy) (v3 := .int .i64 vc) (v4 := .int .i64 vx) (v5 := .string vt) (v6 := .slice va vn vp) (v7 := .string ss) (v8 := .slice xa xn xc) (unhide HF8))
          have XW := (fin_below (x := .int .i64 0) (y := .int .i64 0) (v0 := .int .i64 k) (v1 := .int .i64 vk) (v2 := .bool vy) (v3 := .int .i64 vc) (v4 := .int .i64 vx) (v5 := .string vt) (v6 := .slice va vn vp) (v7 := .string ss) (v8 := .slice xa xn xc) (unhide HB8) (Nat.le_refl _))
          have XBB := fin_xb (w := w) (x := .int .i64 0) (y := .int .i64 0) (v0 := .int .i64 k) (v1 := .int .i64 vk) (v2 := .bool vy) (v3 := .int .i64 vc) (v4 := .int .i64 vx) (v5 := .string vt) (v6 := .slice va vn vp) (v7 := .string ss) (v8 := .slice xa xn xc) (unhide HX8) (unhide HZ4) (by have := unhide HZ4; omega)
          unfold finW put9 at XV XF XW XBB
          refine bodyPost_ret (res_read _ XV XF rfl rfl) rfl ⟨XW, _, _, by rw [unhide HE3], ⟨_, _, _, _, _, _, _, _, _, _, _, _, _, rfl⟩, fun _ => by rw [unhide HE3]; exact XBB⟩
        · have gq : (xe != 0) = true := by simpa using qe
          have HE3 : Hid (final = (4, noX)) := hide (by rw [unhide HE2, if_pos qe])
          clear qe HE2
          go_wp2
          have XV := (fin_v9 (x := .int .i64 4) (y := .int .i64 0) (v0 := .int .i64 0) (v1 := .int .i64 0) (v2 := .bool false) (v3 := .int .i64 0) (v4 := .int .i64 0) (v5 := .string ⟨#[]⟩) (v6 := .slice none 0 0) (v7 := .string ⟨#[]⟩) (v8 := .slice none 0 0) (unhide HK8))
          have XF := (fin_bx (x := .int .i64 4) (y := .int .i64 0) (v0 := .int .i64 0) (v1 := .int .i64 0) (v2 := .bool false) (v3 := .int .i64 0) (v4 := .int .i64 0) (v5 := .string ⟨#[]⟩) (v6 := .slice none 0 0) (v7 := .string ⟨#[]⟩) (v8 := .slice none 0 0) (unhide HF8))
          have XW := (fin_below (x := .int .i64 4) (y := .int .i64 0) (v0 := .int .i64 0) (v1 := .int .i64 0) (v2 := .bool false) (v3 := .int .i64 0) (v4 := .int .i64 0) (v5 := .string ⟨#[]⟩) (v6 := .slice none 0 0) (v7 := .string ⟨#[]⟩) (v8 := .slice none 0 0) (unhide HB8) (Nat.le_refl _))
          unfold finW put9 at XV XF XW
          refine bodyPost_ret (res_read _ XV XF rfl rfl) rfl ⟨XW, _, _, by rw [unhide HE3], ⟨_, _, _, _, _, _, _, _, _, _, _, _, _, rfl⟩, fun cc => absurd cc (by rw [unhide HE3]; simp)⟩
      case neg =>
        rw [if_neg q] at hres
        obtain ⟨at1, rfl⟩ := hres
        have HE2 : Hid (final = (rr.1, noX)) := hide (by rw [unhide HFR, if_pos q])
        have HQ := hide q
        have hql : w2.heap.size ≤ w5.heap.size + 1 := by have := unhide HZ5; omega
        have AS : Hid (Calls Tryz.prog 18 #[.iface 70 (.agg #[.int .i64 rr.1, .int .i64 at1]), .iface 72 (.pointer (some ⟨w5.heap.size + 1, 0, none⟩))] w7 (fun e w' => e = .returned (.bool true) ∧ Below w2.heap.size w2 w' ∧ Bx2 w' (w5.heap.size + 1) (.int .i64 rr.1) (.int .i64 at1))) := hide ((as_hit (w5.heap.size + 1) rr.1 at1 _ _ w7 (unhide HR7).et Q7.at0 Q7.at1 Q7.th0 Q7.th1).mono fun e w' hq => by
          obtain ⟨h1, h2⟩ := hq
          have ha : Below w7.heap.size w7 ((((w7.alloc (.cells #[.pointer (some ⟨w5.heap.size + 1, 0, none⟩)] 72)).alloc (.cells #[.pointer (some ⟨11, 72, none⟩), .pointer (some ⟨w7.heap.size, 0, none⟩), .int .u64 150] 94)).alloc (.cells #[.pointer (some ⟨11, 72, none⟩), .pointer (some ⟨w7.heap.size, 0, none⟩), .int .u64 150] 94)).alloc (.cells #[.int .i64 rr.1, .int .i64 at1] 70)) := below_via (below_via (below_via (vbelow_new _ _) (vbelow_new _ _)) (vbelow_new _ _)) (vbelow_new _ _)
          refine ⟨h1, ?_, ?_⟩
          · rw [h2]
            exact ((hB27.trans (ha.mono hB27.size)).setCell (p := ⟨w5.heap.size + 1, 0, none⟩) hql _).setCell (p := ⟨w5.heap.size + 1, 1, none⟩) hql _
          · rw [h2]
            exact (Q7.keep ha Q7.low).put _ _)
        generalize rr.1 = ec at AS HE2 HQ ⊢
        clear q hb5 hr5 hij B7 V7 Q7 hB25 hB27 WH HFR HR7 hql
        go_upto_region 7 with fail
        rw [← hw7]
        clear hw7
        go_wp2_with fail
        refine (unhide AS).mono ?_
        rintro en w8 ⟨rfl, hB28, E8⟩
        have HK8 := hide ((unhide HK2).keep hB28)
        have HF8 := hide ((unhide HF2).keep hB28 (by have := (unhide HZ2).1; omega))
        have HB8 := hide (below_via (unhide HB2) hB28)
        have e0 := E8.at0
        have e1 := E8.at1
        obtain ⟨u0, u1, u2, u3, u4, u5, u6, u7, u8, c0, c1, c2, c3, c4, c5, c6, c7, c8, f⟩ := (unhide HK8).all
        have k8 := (unhide HK8).low
        obtain ⟨fl, f0, f1, ff0, ff1⟩ := id (unhide HF8)
        have n1 : ¬ w.heap.size = w5.heap.size + 1 := by have := (unhide HZ2).1; have := unhide HZ5; omega
        have n2 : ¬ w.heap.size + 1 = w5.heap.size + 1 := by have := (unhide HZ2).1; have := unhide HZ5; omega
        clear hB28 E8 AS
        go_upto_region 8 with fail
        go_region
        go_wp2
        have XV := (fin_v9 (x := .int .i64 ec) (y := .int .i64 at1) (v0 := .int .i64 0) (v1 := .int .i64 0) (v2 := .bool false) (v3 := .int .i64 0) (v4 := .int .i64 0) (v5 := .string ⟨#[]⟩) (v6 := .slice none 0 0) (v7 := .string ⟨#[]⟩) (v8 := .slice none 0 0) (unhide HK8)).drewX
        have XF := (fin_bx (x := .int .i64 ec) (y := .int .i64 at1) (v0 := .int .i64 0) (v1 := .int .i64 0) (v2 := .bool false) (v3 := .int .i64 0) (v4 := .int .i64 0) (v5 := .string ⟨#[]⟩) (v6 := .slice none 0 0) (v7 := .string ⟨#[]⟩) (v8 := .slice none 0 0) (unhide HF8)).drewX
        have XW := (fin_below (x := .int .i64 ec) (y := .int .i64 at1) (v0 := .int .i64 0) (v1 := .int .i64 0) (v2 := .bool false) (v3 := .int .i64 0) (v4 := .int .i64 0) (v5 := .string ⟨#[]⟩) (v6 := .slice none 0 0) (v7 := .string ⟨#[]⟩) (v8 := .slice none 0 0) (unhide HB8) (Nat.le_refl _)).drew
        unfold finW put9 at XV XF XW
        refine bodyPost_ret (res_read _ XV XF rfl rfl) rfl ⟨XW, _, _, by rw [unhide HE2], ⟨_, _, _, _, _, _, _, _, _, _, _, _, _, rfl⟩, fun cc => absurd cc (by rw [unhide HE2]; exact unhide HQ)⟩
  · rw [if_neg q] at hp
    subst hp
    have HE1 : Hid (final = ((toksF s.data.toList).2.1, noX)) := hide (by rw [unhide HFN, readF, if_pos q])
    clear HFN HSM
    generalize toksF s.data.toList = T at q HE1 ⊢
    obtain ⟨l, er, at'⟩ := T
    simp only at q HE1
    have gq : (er != 0) = true := by simpa using q
    have HQ := hide q
    obtain ⟨w2, hw2⟩ : ∃ w2, w2 = (w1.alloc (.cells #[.slice none 0 0, .int .i64 0] 56)).alloc (.cells #[.int .i64 er, .int .i64 (at' : Int)] 35) := ⟨_, rfl⟩
    have B2 : Below w1.heap.size w1 w2 := by rw [hw2]; exact below_via (vbelow_new _ _) (vbelow_new _ _)
    have E2 : Bx2 w2 (w1.heap.size + 1) (.int .i64 er) (.int .i64 (at' : Int)) := by rw [hw2]; have := Bx2.new (w1.alloc (.cells #[.slice none 0 0, .int .i64 0] 56)) 35 (.int .i64 er) (.int .i64 (at' : Int)); simpa using this
    have HK2 := hide ((unhide HK1).keep B2)
    have HF2 := hide ((unhide HF1).keep B2 (by have := unhide HZ1; omega))
    have HB2 := hide (below_via (unhide HB1) B2)
    have e0 := E2.at0
    have e1 := E2.at1
    obtain ⟨u0, u1, u2, u3, u4, u5, u6, u7, u8, c0, c1, c2, c3, c4, c5, c6, c7, c8, f⟩ := (unhide HK2).all
    have k2 := (unhide HK2).low
    obtain ⟨fl, f0, f1, ff0, ff1⟩ := id (unhide HF2)
    have n1 : ¬ w.heap.size = w1.heap.size + 1 := by have := unhide HZ1; omega
    have n2 : ¬ w.heap.size + 1 = w1.heap.size + 1 := by have := unhide HZ1; omega
    clear q B2 E2 hb1 HR1 HK1 HF1 HB1
    go_upto_region 2 with fail
    rw [← hw2]
    clear hw2
    go_upto_region 3 with fail
    go_region
    go_wp2
    have XV := (fin_v9 (x := .int .i64 er) (y := .int .i64 (at' : Int)) (v0 := .int .i64 0) (v1 := .int .i64 0) (v2 := .bool false) (v3 := .int .i64 0) (v4 := .int .i64 0) (v5 := .string ⟨#[]⟩) (v6 := .slice none 0 0) (v7 := .string ⟨#[]⟩) (v8 := .slice none 0 0) (unhide HK2)).drewX
    have XF := (fin_bx (x := .int .i64 er) (y := .int .i64 (at' : Int)) (v0 := .int .i64 0) (v1 := .int .i64 0) (v2 := .bool false) (v3 := .int .i64 0) (v4 := .int .i64 0) (v5 := .string ⟨#[]⟩) (v6 := .slice none 0 0) (v7 := .string ⟨#[]⟩) (v8 := .slice none 0 0) (unhide HF2)).drewX
    have XB' := (fin_below (x := .int .i64 er) (y := .int .i64 (at' : Int)) (v0 := .int .i64 0) (v1 := .int .i64 0) (v2 := .bool false) (v3 := .int .i64 0) (v4 := .int .i64 0) (v5 := .string ⟨#[]⟩) (v6 := .slice none 0 0) (v7 := .string ⟨#[]⟩) (v8 := .slice none 0 0) (unhide HB2) (Nat.le_refl _)).drew
    unfold finW put9 at XV XF XB'
    refine bodyPost_ret (res_read _ XV XF rfl rfl) rfl ⟨XB', _, _, by rw [unhide HE1], ⟨_, _, _, _, _, _, _, _, _, _, _, _, _, rfl⟩, fun cc => absurd cc (by rw [unhide HE1]; exact unhide HQ)⟩
end Go.Proofs.YthpjejfgoohhfaaGreatDoor
