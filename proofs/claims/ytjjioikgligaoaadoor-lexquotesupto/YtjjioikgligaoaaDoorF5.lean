/- Walks: strings.Clone, firstSign. -/
import Derived.Test.YtjjioikgligaoaaDoorF4
namespace Go.Proofs.YtjjioikgligaoaaDoor
open Go.RowKit

set_option maxHeartbeats 400000 in
theorem clone_any (s : ByteArray) (w : World) (hs : s.size ≤ 4000) :
    Calls Tryd.prog 24 #[.string s] w fun e w' => e = .returned (.string s) ∧ Below w.heap.size w w' := by
  have C := hide (fun wx => Any.stringslite_Clone Tryd.lays316 s wx (by omega))
  go_enter Tryd.func24, Tryd.ntmps24
  go_wp2_with (go_at_call 37; refine (unhide C _).mono ?_; rintro e w1 ⟨rfl, hb⟩)
  go_ret
  exact ⟨rfl, hb⟩

/-- the signs, the longer ones ahead -/
def signsL : List (List UInt8) := [[46, 46], [60, 61], [62, 61], [33, 61], [60], [62], [61], [43], [45], [42], [47], [40], [41], [91], [93], [44]]
def sigV : Array Value := (signsL.map fun l => Value.string ⟨l.toArray⟩).toArray
/-- the sign with which l begins -/
def signF : List (List UInt8) → List UInt8 → FR
  | [], _ => ⟨0, [], 0, 0, 0, 2, 0⟩
  | g :: gs, l => if Lib.hasPrefix l g = true then ⟨4, g, 0, 0, g.length, 0, 0⟩ else signF gs l
theorem signF_yes {g l : List UInt8} {gs : List (List UInt8)} (h : Lib.hasPrefix l g = true) : signF (g :: gs) l = ⟨4, g, 0, 0, g.length, 0, 0⟩ := by rw [signF, if_pos h]
theorem signF_no {g l : List UInt8} {gs : List (List UInt8)} (h : Lib.hasPrefix l g = false) : signF (g :: gs) l = signF gs l := by rw [signF, if_neg (by rw [h]; decide)]
/-- the table of signs lies -/
def SG (w : World) : Prop := ∀ i g, signsL[i]? = some g → w.cell? ⟨0, i, none⟩ = some (.string ⟨g.toArray⟩)
theorem SG.lt {w : World} (h : SG w) : 0 < w.heap.size := World.block_lt_of_cell? w _ (h 0 _ rfl)
theorem SG.on {w W : World} (h : SG w) (hb : Below w.heap.size w W) : SG W := fun i g hg => (hb.cell (p := ⟨0, i, none⟩) h.lt).trans (h i g hg)

abbrev sigLit : Value := .agg #[.string ⟨#[46, 46]⟩, .string ⟨#[60, 61]⟩, .string ⟨#[62, 61]⟩, .string ⟨#[33, 61]⟩, .string ⟨#[60]⟩, .string ⟨#[62]⟩, .string ⟨#[61]⟩, .string ⟨#[43]⟩, .string ⟨#[45]⟩, .string ⟨#[42]⟩, .string ⟨#[47]⟩, .string ⟨#[40]⟩, .string ⟨#[41]⟩, .string ⟨#[91]⟩, .string ⟨#[93]⟩, .string ⟨#[44]⟩]
theorem sig_at (W : World) (g : List UInt8) : (k : Nat) → (hg : signsL[k]? = some g) → (Instr.index 64 sigLit (.int .i64 (k : Int))).run Tryd.prog W = .ok (.string ⟨g.toArray⟩) W
  | 0, hg => by have e := Option.some.inj hg; subst e; simp [Instr.index, sigLit, go_sem]
  | 1, hg => by have e := Option.some.inj hg; subst e; simp [Instr.index, sigLit, go_sem]
  | 2, hg => by have e := Option.some.inj hg; subst e; simp [Instr.index, sigLit, go_sem]
  | 3, hg => by have e := Option.some.inj hg; subst e; simp [Instr.index, sigLit, go_sem]
  | 4, hg => by have e := Option.some.inj hg; subst e; simp [Instr.index, sigLit, go_sem]
  | 5, hg => by have e := Option.some.inj hg; subst e; simp [Instr.index, sigLit, go_sem]
  | 6, hg => by have e := Option.some.inj hg; subst e; simp [Instr.index, sigLit, go_sem]
  | 7, hg => by have e := Option.some.inj hg; subst e; simp [Instr.index, sigLit, go_sem]
  | 8, hg => by have e := Option.some.inj hg; subst e; simp [Instr.index, sigLit, go_sem]
  | 9, hg => by have e := Option.some.inj hg; subst e; simp [Instr.index, sigLit, go_sem]
  | 10, hg => by have e := Option.some.inj hg; subst e; simp [Instr.index, sigLit, go_sem]
  | 11, hg => by have e := Option.some.inj hg; subst e; simp [Instr.index, sigLit, go_sem]
  | 12, hg => by have e := Option.some.inj hg; subst e; simp [Instr.index, sigLit, go_sem]
  | 13, hg => by have e := Option.some.inj hg; subst e; simp [Instr.index, sigLit, go_sem]
  | 14, hg => by have e := Option.some.inj hg; subst e; simp [Instr.index, sigLit, go_sem]
  | 15, hg => by have e := Option.some.inj hg; subst e; simp [Instr.index, sigLit, go_sem]
  | _ + 16, hg => by simp [signsL] at hg

theorem sig_drop {k : Nat} (h : k < 16) : ∃ g, signsL[k]? = some g ∧ signsL.drop k = g :: signsL.drop (k + 1) ∧ g.length ≤ 2 := by
  have hl : k < signsL.length := h
  refine ⟨signsL[k], List.getElem?_eq_getElem hl, List.drop_eq_getElem_cons hl, ?_⟩
  have all : ∀ g ∈ signsL, g.length ≤ 2 := by decide
  exact all _ (List.getElem_mem hl)

set_option maxHeartbeats 2000000 in
theorem firstSign_any (s : ByteArray) (w : World) (h : SG w) :
    Calls Tryd.prog 25 #[.string s] w fun e w' => e = frV (signF signsL s.data.toList) ∧ Below w.heap.size w w' := by
  have hlt := h.lt
  have g0 := h 0 _ rfl
  have g1 := h 1 _ rfl
  have g2 := h 2 _ rfl
  have g3 := h 3 _ rfl
  have g4 := h 4 _ rfl
  have g5 := h 5 _ rfl
  have g6 := h 6 _ rfl
  have g7 := h 7 _ rfl
  have g8 := h 8 _ rfl
  have g9 := h 9 _ rfl
  have g10 := h 10 _ rfl
  have g11 := h 11 _ rfl
  have g12 := h 12 _ rfl
  have g13 := h 13 _ rfl
  have g14 := h 14 _ rfl
  have g15 := h 15 _ rfl
  have h1 : 0 < w.heap.size + 1 := by omega
  have SA := hide sig_at
  clear h
  go_enter Tryd.func25, Tryd.ntmps25
  go_wp2
  clear g0 g1 g2 g3 g4 g5 g6 g7 g8 g9 g10 g11 g12 g13 g14 g15
  go_loop [8] (fun i => ∃ k : Nat, k ≤ 16 ∧ i = .int .i64 (k : Int) ∧ Hid (signF (signsL.drop k) s.data.toList = signF signsL s.data.toList)) (fun i => 16 - (intOf i).toNat)
  case atStart => exact ⟨0, by omega, rfl, hide rfl⟩
  case round =>
    obtain ⟨k, hk, rfl, H⟩ := hrel
    by_cases hk2 : k < 16
    · obtain ⟨g, hg, hd, hg2⟩ := sig_drop hk2
      have hkI : (k : Int) < 16 := by omega
      have hx := fun W => unhide SA W g k hg
      have C := hide (fun W => hasPrefix_any s ⟨g.toArray⟩ W)
      rw [mk_list' g] at C
      rw [hd] at H
      have hz := mk_size' g
      obtain ⟨Gb, hGb⟩ : ∃ Gb : ByteArray, Gb = ⟨g.toArray⟩ := ⟨_, rfl⟩
      rw [← hGb] at hx C hz
      have HGb := hide hGb
      clear hGb hd hg
      cases hp : Lib.hasPrefix s.data.toList g
      · have H2 := hide ((signF_no hp).symm.trans (unhide H))
        rw [hp] at C
        clear hp H
        go_wp2_with (go_at_call 19; refine (unhide C _).mono ?_; rintro e w1 ⟨rfl, rfl⟩)
        go_round
        case rel => exact ⟨k + 1, by omega, by go_num, H2⟩
        case measure => simp [intOf]; omega
      · have H2 := hide ((unhide H).symm.trans (signF_yes hp))
        rw [hp] at C
        clear hp H
        go_wp2_with (go_at_call 19; refine (unhide C _).mono ?_; rintro e w1 ⟨rfl, rfl⟩)
        exact bodyPost_ret (v := .tuple #[.agg #[.int .i64 4, .string Gb, .int .i64 0, .int .i64 0, .int .i64 0], .int .i64 (g.length : Int), .agg #[.int .i64 0, .int .i64 0]]) (by simp [results, Tryd.results25, go_sem]) rfl ⟨by rw [unhide H2, unhide HGb]; rfl, ((Below.refl _ _).alloc (Nat.le_refl _) _).alloc (by simp) _⟩
    · obtain rfl : k = 16 := by omega
      have H2 : Hid (signF signsL s.data.toList = ⟨0, [], 0, 0, 0, 2, 0⟩) := hide (unhide H).symm
      clear H
      go_wp2
      exact bodyPost_ret (v := .tuple #[.agg #[.int .i64 0, .string ⟨#[]⟩, .int .i64 0, .int .i64 0, .int .i64 0], .int .i64 0, .agg #[.int .i64 2, .int .i64 0]]) (by simp [results, Tryd.results25, go_sem]) rfl ⟨by rw [unhide H2]; rfl, ((Below.refl _ _).alloc (Nat.le_refl _) _).alloc (by simp) _⟩
end Go.Proofs.YtjjioikgligaoaaDoor
