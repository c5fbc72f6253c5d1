/- Walks: the table of functions is made. (Written by gen_ye.py.) -/
import Derived.Test.YtnegjbkbfgkkjaaGreatDoorG16
import Derived.Test.YtnegjbkbfgkkjaaGreatDoorG17
namespace Go.Proofs.YtnegjbkbfgkkjaaGreatDoor
open Go.RowKit

open Go.MapKept

set_option maxRecDepth 100000 in
set_option maxHeartbeats 16000000 in
theorem functions_tell (lo : Nat) (w : World) (hlo : 0 < lo) (hl : lo ≤ w.heap.size) :
    Calls Tryz.prog 108 #[] w fun e w' => ∃ m, e = .returned (.map (some m)) ∧ FnM lo m w' fnTab ∧ Below w.heap.size w w' := by
  have hmm := @run_makeMap Tryz.prog
  have S0 := hide (And.intro (FnM.new w lo hl) (And.intro ((Below.refl w.heap.size w).alloc (Nat.le_refl _) (.map #[] 0)) (show lo ≤ (w.alloc (.map #[] 0)).heap.size by simp; omega)))
  have H0 := hide hl
  clear hl
  go_enter Tryz.func108, Tryz.ntmps108
  go_wp2_with fail
  refine (always_tell _ _).mono ?_
  rintro e w0a ⟨rfl, hc, hz, hb⟩
  have q := fn_always hlo (unhide S0).2.2 (unhide S0).1 (unhide S0).2.1 [2] 3 2 (by simpa using hc) (by simpa using hz) (by simpa using hb)
  simp only [World.size_alloc] at q
  have T0 := hide q
  clear hc hz hb q S0
  go_wp2_with fail
  refine upon_fn Tryz.underlying182 Tryz.underlying9 ⟨#[110, 111, 116]⟩ [2] (.always 2) (unhide T0).1 (unhide T0).2.1 (unhide T0).2.2.1 (unhide T0).2.2.2.1 (unhide T0).2.2.2.2.1 ?_
  intro w0b M B
  have S1 := hide (And.intro M (And.intro ((unhide T0).2.2.2.2.2.trans (B.below (by have := (unhide H0); have := M.low; omega) (unhide T0).2.2.2.2.2.size)) (Nat.le_trans (unhide H0) (Nat.le_trans (unhide T0).2.2.2.2.2.size B.size))))
  clear M B T0
  go_wp2_with fail
  refine (always_tell _ _).mono ?_
  rintro e w1a ⟨rfl, hc, hz, hb⟩
  simp only [World.size_alloc] at hc hz hb
  have T1 := hide (fn_always hlo (unhide S1).2.2 (unhide S1).1 (unhide S1).2.1 [3] 3 3 hc hz hb)
  clear hc hz hb S1
  go_wp2_with fail
  refine upon_fn Tryz.underlying182 Tryz.underlying9 ⟨#[102, 108, 111, 111, 114]⟩ [3] (.always 3) (unhide T1).1 (unhide T1).2.1 (unhide T1).2.2.1 (unhide T1).2.2.2.1 (unhide T1).2.2.2.2.1 ?_
  intro w1b M B
  have S2 := hide (And.intro M (And.intro ((unhide T1).2.2.2.2.2.trans (B.below (by have := (unhide H0); have := M.low; omega) (unhide T1).2.2.2.2.2.size)) (Nat.le_trans (unhide H0) (Nat.le_trans (unhide T1).2.2.2.2.2.size B.size))))
  clear M B T1
  go_wp2_with fail
  refine (always_tell _ _).mono ?_
  rintro e w2a ⟨rfl, hc, hz, hb⟩
  simp only [World.size_alloc] at hc hz hb
  have T2 := hide (fn_always hlo (unhide S2).2.2 (unhide S2).1 (unhide S2).2.1 [3] 3 3 hc hz hb)
  clear hc hz hb S2
  go_wp2_with fail
  refine upon_fn Tryz.underlying182 Tryz.underlying9 ⟨#[99, 101, 105, 108, 105, 110, 103]⟩ [3] (.always 3) (unhide T2).1 (unhide T2).2.1 (unhide T2).2.2.1 (unhide T2).2.2.2.1 (unhide T2).2.2.2.2.1 ?_
  intro w2b M B
  have S3 := hide (And.intro M (And.intro ((unhide T2).2.2.2.2.2.trans (B.below (by have := (unhide H0); have := M.low; omega) (unhide T2).2.2.2.2.2.size)) (Nat.le_trans (unhide H0) (Nat.le_trans (unhide T2).2.2.2.2.2.size B.size))))
  clear M B T2
  go_wp2_with fail
  refine (always_tell _ _).mono ?_
  rintro e w3a ⟨rfl, hc, hz, hb⟩
  simp only [World.size_alloc] at hc hz hb
  have T3 := hide (fn_always hlo (unhide S3).2.2 (unhide S3).1 (unhide S3).2.1 [3] 3 3 hc hz hb)
  clear hc hz hb S3
  go_wp2_with fail
  refine upon_fn Tryz.underlying182 Tryz.underlying9 ⟨#[97, 98, 115]⟩ [3] (.always 3) (unhide T3).1 (unhide T3).2.1 (unhide T3).2.2.1 (unhide T3).2.2.2.1 (unhide T3).2.2.2.2.1 ?_
  intro w3b M B
  have S4 := hide (And.intro M (And.intro ((unhide T3).2.2.2.2.2.trans (B.below (by have := (unhide H0); have := M.low; omega) (unhide T3).2.2.2.2.2.size)) (Nat.le_trans (unhide H0) (Nat.le_trans (unhide T3).2.2.2.2.2.size B.size))))
  clear M B T3
  go_wp2_with fail
  refine (always_tell _ _).mono ?_
  rintro e w4a ⟨rfl, hc, hz, hb⟩
  simp only [World.size_alloc] at hc hz hb
  have T4 := hide (fn_always hlo (unhide S4).2.2 (unhide S4).1 (unhide S4).2.1 [3, 3] 3 3 hc hz hb)
  clear hc hz hb S4
  go_wp2_with fail
  refine upon_fn Tryz.underlying182 Tryz.underlying9 ⟨#[114, 111, 117, 110, 100]⟩ [3, 3] (.always 3) (unhide T4).1 (unhide T4).2.1 (unhide T4).2.2.1 (unhide T4).2.2.2.1 (unhide T4).2.2.2.2.1 ?_
  intro w4b M B
  have S5 := hide (And.intro M (And.intro ((unhide T4).2.2.2.2.2.trans (B.below (by have := (unhide H0); have := M.low; omega) (unhide T4).2.2.2.2.2.size)) (Nat.le_trans (unhide H0) (Nat.le_trans (unhide T4).2.2.2.2.2.size B.size))))
  clear M B T4
  go_wp2_with fail
  have T5 := hide (fn_plain hlo (unhide S5).2.2 (unhide S5).1 (unhide S5).2.1 [5] 3)
  clear S5
  refine upon_fn Tryz.underlying182 Tryz.underlying9 ⟨#[109, 105, 110]⟩ [5] .elem (unhide T5).1 (unhide T5).2.1 (unhide T5).2.2.1 rfl (fun c e => by simp at e) ?_
  intro w5b M B
  have S6 := hide (And.intro M (And.intro ((unhide T5).2.2.2.trans (B.below (by have := (unhide H0); have := M.low; omega) (unhide T5).2.2.2.size)) (Nat.le_trans (unhide H0) (Nat.le_trans (unhide T5).2.2.2.size B.size))))
  clear M B T5
  go_wp2_with fail
  have T6 := hide (fn_plain hlo (unhide S6).2.2 (unhide S6).1 (unhide S6).2.1 [5] 3)
  clear S6
  refine upon_fn Tryz.underlying182 Tryz.underlying9 ⟨#[109, 97, 120]⟩ [5] .elem (unhide T6).1 (unhide T6).2.1 (unhide T6).2.2.1 rfl (fun c e => by simp at e) ?_
  intro w6b M B
  have S7 := hide (And.intro M (And.intro ((unhide T6).2.2.2.trans (B.below (by have := (unhide H0); have := M.low; omega) (unhide T6).2.2.2.size)) (Nat.le_trans (unhide H0) (Nat.le_trans (unhide T6).2.2.2.size B.size))))
  clear M B T6
  go_wp2_with fail
  have T7 := hide (fn_plain hlo (unhide S7).2.2 (unhide S7).1 (unhide S7).2.1 [5, 3] 3)
  clear S7
  refine upon_fn Tryz.underlying182 Tryz.underlying9 ⟨#[105, 116, 101, 109]⟩ [5, 3] .elem (unhide T7).1 (unhide T7).2.1 (unhide T7).2.2.1 rfl (fun c e => by simp at e) ?_
  intro w7b M B
  have S8 := hide (And.intro M (And.intro ((unhide T7).2.2.2.trans (B.below (by have := (unhide H0); have := M.low; omega) (unhide T7).2.2.2.size)) (Nat.le_trans (unhide H0) (Nat.le_trans (unhide T7).2.2.2.size B.size))))
  clear M B T7
  go_wp2_with fail
  have T8 := hide (fn_plain hlo (unhide S8).2.2 (unhide S8).1 (unhide S8).2.1 [5] 3)
  clear S8
  refine upon_fn Tryz.underlying182 Tryz.underlying9 ⟨#[115, 117, 109]⟩ [5] .sum (unhide T8).1 (unhide T8).2.1 (unhide T8).2.2.1 rfl (fun c e => by simp at e) ?_
  intro w8b M B
  have S9 := hide (And.intro M (And.intro ((unhide T8).2.2.2.trans (B.below (by have := (unhide H0); have := M.low; omega) (unhide T8).2.2.2.size)) (Nat.le_trans (unhide H0) (Nat.le_trans (unhide T8).2.2.2.size B.size))))
  clear M B T8
  go_wp2_with fail
  refine (always_tell _ _).mono ?_
  rintro e w9a ⟨rfl, hc, hz, hb⟩
  simp only [World.size_alloc] at hc hz hb
  have T9 := hide (fn_always hlo (unhide S9).2.2 (unhide S9).1 (unhide S9).2.1 [5] 3 3 hc hz hb)
  clear hc hz hb S9
  go_wp2_with fail
  refine upon_fn Tryz.underlying182 Tryz.underlying9 ⟨#[99, 111, 117, 110, 116]⟩ [5] (.always 3) (unhide T9).1 (unhide T9).2.1 (unhide T9).2.2.1 (unhide T9).2.2.2.1 (unhide T9).2.2.2.2.1 ?_
  intro w9b M B
  have S10 := hide (And.intro M (And.intro ((unhide T9).2.2.2.2.2.trans (B.below (by have := (unhide H0); have := M.low; omega) (unhide T9).2.2.2.2.2.size)) (Nat.le_trans (unhide H0) (Nat.le_trans (unhide T9).2.2.2.2.2.size B.size))))
  clear M B T9
  go_wp2_with fail
  have T10 := hide (fn_plain hlo (unhide S10).2.2 (unhide S10).1 (unhide S10).2.1 [5] 3)
  clear S10
  refine upon_fn Tryz.underlying182 Tryz.underlying9 ⟨#[114, 101, 118, 101, 114, 115, 101]⟩ [5] .elems (unhide T10).1 (unhide T10).2.1 (unhide T10).2.2.1 rfl (fun c e => by simp at e) ?_
  intro w10b M B
  have S11 := hide (And.intro M (And.intro ((unhide T10).2.2.2.trans (B.below (by have := (unhide H0); have := M.low; omega) (unhide T10).2.2.2.size)) (Nat.le_trans (unhide H0) (Nat.le_trans (unhide T10).2.2.2.size B.size))))
  clear M B T10
  go_wp2_with fail
  have T11 := hide (fn_plain hlo (unhide S11).2.2 (unhide S11).1 (unhide S11).2.1 [5] 3)
  clear S11
  refine upon_fn Tryz.underlying182 Tryz.underlying9 ⟨#[100, 105, 115, 116, 105, 110, 99, 116]⟩ [5] .elems (unhide T11).1 (unhide T11).2.1 (unhide T11).2.2.1 rfl (fun c e => by simp at e) ?_
  intro w11b M B
  have S12 := hide (And.intro M (And.intro ((unhide T11).2.2.2.trans (B.below (by have := (unhide H0); have := M.low; omega) (unhide T11).2.2.2.size)) (Nat.le_trans (unhide H0) (Nat.le_trans (unhide T11).2.2.2.size B.size))))
  clear M B T11
  go_wp2_with fail
  have T12 := hide (fn_plain hlo (unhide S12).2.2 (unhide S12).1 (unhide S12).2.1 [5] 3)
  clear S12
  refine upon_fn Tryz.underlying182 Tryz.underlying9 ⟨#[115, 111, 114, 116]⟩ [5] .elems (unhide T12).1 (unhide T12).2.1 (unhide T12).2.2.1 rfl (fun c e => by simp at e) ?_
  intro w12b M B
  have S13 := hide (And.intro M (And.intro ((unhide T12).2.2.2.trans (B.below (by have := (unhide H0); have := M.low; omega) (unhide T12).2.2.2.size)) (Nat.le_trans (unhide H0) (Nat.le_trans (unhide T12).2.2.2.size B.size))))
  clear M B T12
  go_wp2_with fail
  have T13 := hide (fn_plain hlo (unhide S13).2.2 (unhide S13).1 (unhide S13).2.1 [5, 5] 3)
  clear S13
  refine upon_fn Tryz.underlying182 Tryz.underlying9 ⟨#[99, 111, 110, 99, 97, 116]⟩ [5, 5] .elems (unhide T13).1 (unhide T13).2.1 (unhide T13).2.2.1 rfl (fun c e => by simp at e) ?_
  intro w13b M B
  have S14 := hide (And.intro M (And.intro ((unhide T13).2.2.2.trans (B.below (by have := (unhide H0); have := M.low; omega) (unhide T13).2.2.2.size)) (Nat.le_trans (unhide H0) (Nat.le_trans (unhide T13).2.2.2.size B.size))))
  clear M B T13
  go_wp2_with fail
  refine (always_tell _ _).mono ?_
  rintro e w14a ⟨rfl, hc, hz, hb⟩
  simp only [World.size_alloc] at hc hz hb
  have T14 := hide (fn_always hlo (unhide S14).2.2 (unhide S14).1 (unhide S14).2.1 [4] 3 3 hc hz hb)
  clear hc hz hb S14
  go_wp2_with fail
  refine upon_fn Tryz.underlying182 Tryz.underlying9 ⟨#[108, 101, 110, 103, 116, 104]⟩ [4] (.always 3) (unhide T14).1 (unhide T14).2.1 (unhide T14).2.2.1 (unhide T14).2.2.2.1 (unhide T14).2.2.2.2.1 ?_
  intro w14b M B
  have S15 := hide (And.intro M (And.intro ((unhide T14).2.2.2.2.2.trans (B.below (by have := (unhide H0); have := M.low; omega) (unhide T14).2.2.2.2.2.size)) (Nat.le_trans (unhide H0) (Nat.le_trans (unhide T14).2.2.2.2.2.size B.size))))
  clear M B T14
  go_wp2_with fail
  refine (always_tell _ _).mono ?_
  rintro e w15a ⟨rfl, hc, hz, hb⟩
  simp only [World.size_alloc] at hc hz hb
  have T15 := hide (fn_always hlo (unhide S15).2.2 (unhide S15).1 (unhide S15).2.1 [4] 3 4 hc hz hb)
  clear hc hz hb S15
  go_wp2_with fail
  refine upon_fn Tryz.underlying182 Tryz.underlying9 ⟨#[117, 112, 112, 101, 114]⟩ [4] (.always 4) (unhide T15).1 (unhide T15).2.1 (unhide T15).2.2.1 (unhide T15).2.2.2.1 (unhide T15).2.2.2.2.1 ?_
  intro w15b M B
  have S16 := hide (And.intro M (And.intro ((unhide T15).2.2.2.2.2.trans (B.below (by have := (unhide H0); have := M.low; omega) (unhide T15).2.2.2.2.2.size)) (Nat.le_trans (unhide H0) (Nat.le_trans (unhide T15).2.2.2.2.2.size B.size))))
  clear M B T15
  go_wp2_with fail
  refine (always_tell _ _).mono ?_
  rintro e w16a ⟨rfl, hc, hz, hb⟩
  simp only [World.size_alloc] at hc hz hb
  have T16 := hide (fn_always hlo (unhide S16).2.2 (unhide S16).1 (unhide S16).2.1 [4] 3 4 hc hz hb)
  clear hc hz hb S16
  go_wp2_with fail
  refine upon_fn Tryz.underlying182 Tryz.underlying9 ⟨#[108, 111, 119, 101, 114]⟩ [4] (.always 4) (unhide T16).1 (unhide T16).2.1 (unhide T16).2.2.1 (unhide T16).2.2.2.1 (unhide T16).2.2.2.2.1 ?_
  intro w16b M B
  have S17 := hide (And.intro M (And.intro ((unhide T16).2.2.2.2.2.trans (B.below (by have := (unhide H0); have := M.low; omega) (unhide T16).2.2.2.2.2.size)) (Nat.le_trans (unhide H0) (Nat.le_trans (unhide T16).2.2.2.2.2.size B.size))))
  clear M B T16
  go_wp2_with fail
  refine (always_tell _ _).mono ?_
  rintro e w17a ⟨rfl, hc, hz, hb⟩
  simp only [World.size_alloc] at hc hz hb
  have T17 := hide (fn_always hlo (unhide S17).2.2 (unhide S17).1 (unhide S17).2.1 [4, 3, 3] 3 4 hc hz hb)
  clear hc hz hb S17
  go_wp2_with fail
  refine upon_fn Tryz.underlying182 Tryz.underlying9 ⟨#[115, 117, 98, 115, 116, 114, 105, 110, 103]⟩ [4, 3, 3] (.always 4) (unhide T17).1 (unhide T17).2.1 (unhide T17).2.2.1 (unhide T17).2.2.2.1 (unhide T17).2.2.2.2.1 ?_
  intro w17b M B
  have S18 := hide (And.intro M (And.intro ((unhide T17).2.2.2.2.2.trans (B.below (by have := (unhide H0); have := M.low; omega) (unhide T17).2.2.2.2.2.size)) (Nat.le_trans (unhide H0) (Nat.le_trans (unhide T17).2.2.2.2.2.size B.size))))
  clear M B T17
  go_wp2_with fail
  refine (always_tell _ _).mono ?_
  rintro e w18a ⟨rfl, hc, hz, hb⟩
  simp only [World.size_alloc] at hc hz hb
  have T18 := hide (fn_always hlo (unhide S18).2.2 (unhide S18).1 (unhide S18).2.1 [4, 4] 3 2 hc hz hb)
  clear hc hz hb S18
  go_wp2_with fail
  refine upon_fn Tryz.underlying182 Tryz.underlying9 ⟨#[99, 111, 110, 116, 97, 105, 110, 115]⟩ [4, 4] (.always 2) (unhide T18).1 (unhide T18).2.1 (unhide T18).2.2.1 (unhide T18).2.2.2.1 (unhide T18).2.2.2.2.1 ?_
  intro w18b M B
  have S19 := hide (And.intro M (And.intro ((unhide T18).2.2.2.2.2.trans (B.below (by have := (unhide H0); have := M.low; omega) (unhide T18).2.2.2.2.2.size)) (Nat.le_trans (unhide H0) (Nat.le_trans (unhide T18).2.2.2.2.2.size B.size))))
  clear M B T18
  go_wp2_with fail
  refine (always_tell _ _).mono ?_
  rintro e w19a ⟨rfl, hc, hz, hb⟩
  simp only [World.size_alloc] at hc hz hb
  have T19 := hide (fn_always hlo (unhide S19).2.2 (unhide S19).1 (unhide S19).2.1 [4, 4] 3 2 hc hz hb)
  clear hc hz hb S19
  go_wp2_with fail
  refine upon_fn Tryz.underlying182 Tryz.underlying9 ⟨#[115, 116, 97, 114, 116, 115]⟩ [4, 4] (.always 2) (unhide T19).1 (unhide T19).2.1 (unhide T19).2.2.1 (unhide T19).2.2.2.1 (unhide T19).2.2.2.2.1 ?_
  intro w19b M B
  have S20 := hide (And.intro M (And.intro ((unhide T19).2.2.2.2.2.trans (B.below (by have := (unhide H0); have := M.low; omega) (unhide T19).2.2.2.2.2.size)) (Nat.le_trans (unhide H0) (Nat.le_trans (unhide T19).2.2.2.2.2.size B.size))))
  clear M B T19
  go_wp2_with fail
  refine (always_tell _ _).mono ?_
  rintro e w20a ⟨rfl, hc, hz, hb⟩
  simp only [World.size_alloc] at hc hz hb
  have T20 := hide (fn_always hlo (unhide S20).2.2 (unhide S20).1 (unhide S20).2.1 [4, 4] 3 2 hc hz hb)
  clear hc hz hb S20
  go_wp2_with fail
  refine upon_fn Tryz.underlying182 Tryz.underlying9 ⟨#[101, 110, 100, 115]⟩ [4, 4] (.always 2) (unhide T20).1 (unhide T20).2.1 (unhide T20).2.2.1 (unhide T20).2.2.2.1 (unhide T20).2.2.2.2.1 ?_
  intro w20b M B
  have S21 := hide (And.intro M (And.intro ((unhide T20).2.2.2.2.2.trans (B.below (by have := (unhide H0); have := M.low; omega) (unhide T20).2.2.2.2.2.size)) (Nat.le_trans (unhide H0) (Nat.le_trans (unhide T20).2.2.2.2.2.size B.size))))
  clear M B T20
  go_wp2_with fail
  have T21 := hide (fn_plain hlo (unhide S21).2.2 (unhide S21).1 (unhide S21).2.1 [0, 0, 0] 3)
  clear S21
  refine upon_fn Tryz.underlying182 Tryz.underlying9 ⟨#[98, 101, 116, 119, 101, 101, 110]⟩ [0, 0, 0] .between (unhide T21).1 (unhide T21).2.1 (unhide T21).2.2.1 rfl (fun c e => by simp at e) ?_
  intro w21b M B
  have S22 := hide (And.intro M (And.intro ((unhide T21).2.2.2.trans (B.below (by have := (unhide H0); have := M.low; omega) (unhide T21).2.2.2.size)) (Nat.le_trans (unhide H0) (Nat.le_trans (unhide T21).2.2.2.size B.size))))
  clear M B T21
  go_wp2_with fail
  go_ret
  exact ⟨_, rfl, (unhide S22).1, (unhide S22).2.1⟩
end Go.Proofs.YtnegjbkbfgkkjaaGreatDoor

/- Walks: a function asked, whichever it is. -/
namespace Go.Proofs.YtnegjbkbfgkkjaaGreatDoor
open Go.RowKit Go.MapKept

theorem fnIn_mem : ∀ {tab : List (List UInt8 × List Int × Tl)} {s : List UInt8} {q : List Int × Tl}, fnIn tab s = some q → ∃ e ∈ tab, e.2 = q
  | [], s, q, h => by cases h
  | e :: tab, s, q, h => by
    rw [fnIn] at h
    split at h
    · cases h; exact ⟨e, List.mem_cons_self .., rfl⟩
    · obtain ⟨e', he, hq⟩ := fnIn_mem h
      exact ⟨e', List.mem_cons_of_mem _ he, hq⟩
theorem fnTab_len : ∀ e ∈ fnTab, 0 < e.2.1.length := by
  intro e he
  simp only [fnTab, List.mem_cons, List.not_mem_nil, or_false] at he
  rcases he with rfl | rfl | rfl | rfl | rfl | rfl | rfl | rfl | rfl | rfl | rfl | rfl | rfl | rfl | rfl | rfl | rfl | rfl | rfl | rfl | rfl | rfl <;> simp
theorem fn_pos {s : List UInt8} {q : List Int × Tl} (h : fnIn fnTab s = some q) : 0 < q.1.length := by
  obtain ⟨e, he, rfl⟩ := fnIn_mem h
  exact fnTab_len e he

theorem of_any {B : Nat} {l : List Sp} {kv : Value} {lo : Nat} (tk : List Int) (tl : Tl) (bt cap : Nat) (fv : Value) (w : World) (hT : TkV lo w tk bt) (hF : TlV lo w tl fv) (h : SL B w kv l) (hl : tk.length = l.length) (hn : ∀ a ∈ l, a.n ≤ 99999) (h0 : 0 < tk.length) :
    Calls Tryz.prog 144 #[.agg #[.slice (some ⟨bt, 0, none⟩) tk.length cap, fv], kv] w fun e w' => e = .returned (.tuple #[sh (ofF tk tl l).1, .bool (ofF tk tl l).2]) ∧ Below w.heap.size w w' := by
  have hT0 := hT.mono (Nat.zero_le lo)
  obtain ⟨s, hs⟩ : ∃ s, l[0]? = some s := ⟨_, List.getElem?_eq_getElem (by omega)⟩
  have hsn : s.n ≤ 100000 := Nat.le_trans (hn s (List.mem_of_getElem? hs)) (by omega)
  have hg : l.getD 0 ⟨0, 0⟩ = s := by rw [List.getD_eq_getElem?_getD, hs]; rfl
  show Calls Tryz.prog 144 #[.agg #[.slice (some ⟨bt, 0, none⟩) tk.length cap, fv], kv] w fun e w' => e = .returned (.tuple #[sh (ofR (goesB tk l) (tellF tl l)).1, .bool (ofR (goesB tk l) (tellF tl l)).2]) ∧ Below w.heap.size w w'
  cases tl with
  | always k =>
    obtain ⟨c, rfl, h1, h2, h3⟩ := hF
    exact of_always c tk bt cap w hT0 h hl _ (fun wx hb => always1_any k kv c wx ((hb.cell (p := ⟨c, 0, none⟩) h2).trans h3) (Nat.lt_of_lt_of_le h2 hb.size))
  | elem =>
    obtain rfl := hF
    exact of_elem tk bt cap w hT0 h hl _ (fun wx hb => by
      have := elemOfFirst_any wx (h.keep hb) hs hsn
      simpa only [tellF, hg] using this)
  | elems =>
    obtain rfl := hF
    exact of_elems tk bt cap w hT0 h hl _ (fun wx hb => listOfElems_any wx (h.keep hb) hn)
  | sum =>
    obtain rfl := hF
    exact of_sum tk bt cap w hT0 h hl _ (fun wx hb => by
      have := ofSum_any wx (h.keep hb) hs hsn
      simp only [tellF, hg]
      exact this)
  | between =>
    obtain rfl := hF
    exact of_between tk bt cap w hT0 h hl _ (fun wx hb => ofBetween_any wx (h.keep hb))
theorem TlV.func {lo : Nat} {w : World} {tl : Tl} {fv : Value} (h : TlV lo w tl fv) : ∃ f x y, fv = .func f x y := by
  cases tl with
  | always k => obtain ⟨c, rfl, _⟩ := h; exact ⟨_, _, _, rfl⟩
  | elem => obtain rfl := h; exact ⟨_, _, _, rfl⟩
  | elems => obtain rfl := h; exact ⟨_, _, _, rfl⟩
  | sum => obtain rfl := h; exact ⟨_, _, _, rfl⟩
  | between => obtain rfl := h; exact ⟨_, _, _, rfl⟩
end Go.Proofs.YtnegjbkbfgkkjaaGreatDoor
