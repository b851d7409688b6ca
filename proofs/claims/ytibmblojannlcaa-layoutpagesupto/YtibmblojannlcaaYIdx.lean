/- Where something holds: sections of the image. -/
import Derived.Test.YtibmblojannlcaaYKnow
namespace Go.Proofs.Ytibmblojannlcaa
open Go.ChangeShapes Go.WideShapes Go.ChangeAt Go.RowKit Go.Maps
set_option linter.unusedVariables false
set_option linter.unusedSimpArgs false

def idxP {α : Type} (p : α → Bool) (l : List α) : Int := match l.findIdx? p with | some i => (i : Int) | none => -1
theorem idxP_none {α : Type} {p : α → Bool} {l : List α} (h : l.all (fun x => !p x) = true) : idxP p l = -1 := by
  unfold idxP
  rw [List.findIdx?_eq_none_iff.2 (fun x hx => by have := List.all_eq_true.1 h x hx; simpa using this)]
theorem idxP_at {α : Type} {p : α → Bool} {l : List α} (k : Nat) (hk : k < l.length) (h : (l.take k).all (fun x => !p x) = true) (hp : p l[k] = true) : idxP p l = (k : Int) := by
  unfold idxP
  have : l.findIdx? p = some k := by
    rw [List.findIdx?_eq_some_iff_getElem]
    refine ⟨hk, hp, fun j hj => ?_⟩
    have := List.all_eq_true.1 h ((l.take k)[j]'(by simp; omega)) (List.getElem_mem _)
    simpa using this
  rw [this]
theorem idxP_pos {α : Type} (p : α → Bool) (l : List α) : decide (0 ≤ idxP p l) = l.any p := by
  unfold idxP
  cases h : l.findIdx? p with
  | none =>
    rw [List.findIdx?_eq_none_iff] at h
    have : l.any p = false := by rw [List.any_eq_false]; intro x hx; rw [h x hx]; simp
    rw [this]; rfl
  | some i =>
    obtain ⟨hi, hp, _⟩ := List.findIdx?_eq_some_iff_getElem.1 h
    have : l.any p = true := List.any_eq_true.2 ⟨_, List.getElem_mem hi, hp⟩
    rw [this]
    simp
theorem idx_find {α : Type} (p : α → Bool) (l : List α) : (l.find? p = none ∧ idxP p l = -1) ∨ ∃ (k : Nat) (hk : k < l.length), l.find? p = some l[k] ∧ idxP p l = (k : Int) := by
  unfold idxP
  cases h : l.findIdx? p with
  | none =>
    rw [List.findIdx?_eq_none_iff] at h
    exact .inl ⟨List.find?_eq_none.2 (fun x hx => by rw [h x hx]; simp), rfl⟩
  | some i =>
    obtain ⟨hi, hp, hlt⟩ := List.findIdx?_eq_some_iff_getElem.1 h
    refine .inr ⟨i, hi, ?_, rfl⟩
    rw [List.find?_eq_some_iff_getElem]
    exact ⟨hp, i, hi, rfl, fun j hj => by have := hlt j hj; simpa using this⟩

set_option maxHeartbeats 2000000 in
set_option maxRecDepth 10000 in
theorem ixO_any (J : Nat) (p : Ou → Bool) (cb : Array Value) (ao : Option Addr) (c : Nat) (l : List Ou) (w : World) (hl : l.length ≤ 9223372036854775806) (hr : Outs w ao l)
    (hent : ∀ args w, (callFunc J args).run Try.prog w = .ok (.enter J args) w)
    (hop : ∀ s W, Below w.heap.size w W → Calls Try.prog J (#[Ou.val s] ++ cb) W fun e w' => e = .returned (.bool (p s)) ∧ Below W.heap.size W w') :
    Calls Try.prog 47 #[.slice ao l.length c, .func (.func J) #[] cb] w fun e w' => e = .returned (.int .i64 (idxP p l)) ∧ Below w.heap.size w w' := by
  have HO : Hid (∀ s W, Below w.heap.size w W → Calls Try.prog J (#[Ou.val s] ++ cb) W fun e w' => e = .returned (.bool (p s)) ∧ Below W.heap.size W w') := ⟨hop⟩
  have HR : Hid (Outs w ao l) := ⟨hr⟩
  have HN : Hid (l.all (fun x => !p x) = true → idxP p l = -1) := ⟨idxP_none⟩
  have HA : Hid (∀ k (hk : k < l.length), (l.take k).all (fun x => !p x) = true → p l[k] = true → idxP p l = (k : Int)) := ⟨fun k hk => idxP_at k hk⟩
  have HF : Hid (Below w.heap.size w w) := ⟨Below.refl _ _⟩
  generalize idxP p l = X at *
  clear hop hr
  go_enter Try.func47, Try.ntmps47
  go_wp2
  go_loopw [8] (fun i wr => ∃ k : Nat, k ≤ l.length ∧ i = .int .i64 k ∧ Hid ((l.take k).all (fun x => !p x) = true ∧ Below w.heap.size w wr)) (fun i _ => l.length - (intOf i).toNat)
  case atStart => exact ⟨0, by omega, rfl, ⟨by simp, HF.out⟩⟩
  case round =>
    obtain ⟨k, hk, rfl, HW⟩ := hrel
    by_cases hlt : k < l.length
    · obtain ⟨b, off, rfl, hcell⟩ : ∃ b off, ao = some ⟨b, off, none⟩ ∧ ∀ i, i < l.length → OutAt wr b (off + i * 6) (l.getD i Ou.zero) := by
        rcases HR.out.below HW.out.2 (Nat.le_refl _) with h | h
        · subst h; simp at hlt
        · exact h
      obtain ⟨c0, c1, c2, c3, c4, c5⟩ := hcell k hlt
      have hget : l.getD k Ou.zero = l[k] := by simp [hlt]
      rw [hget] at c0 c1 c2 c3 c4 c5
      have HX := HA.out k hlt HW.out.1
      have HT : Hid (p l[k] = false → (l.take (k + 1)).all (fun x => !p x) = true) := ⟨fun h => by rw [all_take_succ _ _ _ hlt, HW.out.1, h]; rfl⟩
      have HC : Hid _ := ⟨HO.out l[k] wr HW.out.2⟩
      have HXX : Hid _ := ⟨HX⟩
      obtain ⟨s, hs⟩ : ∃ s, s = l[k] := ⟨_, rfl⟩
      rw [← hs] at c0 c1 c2 c3 c4 c5 HT HC HXX
      clear hs hcell hget HX
      generalize p s = q at *
      obtain ⟨nm, o1, o2, o3, o4, o5⟩ := s
      dsimp only [Ou.val] at *
      cases q
      · have hT := HT.out rfl
        go_wp2_with (go_at_fn J; (with_reducible refine HC.out.mono ?_); rintro e w3 ⟨rfl, hb3⟩)
        go_roundw
        case rel => exact ⟨k + 1, hlt, by go_num, ⟨hT, HW.out.2.trans (hb3.mono HW.out.2.size)⟩⟩
        case measure => simp [intOf]; omega
      · have hX := HXX.out rfl
        go_wp2_with (go_at_fn J; (with_reducible refine HC.out.mono ?_); rintro e w3 ⟨rfl, hb3⟩)
        go_ret
        exact ⟨by rw [hX]; rfl, HW.out.2.trans (hb3.mono HW.out.2.size)⟩
    · obtain rfl : k = l.length := by omega
      have hN := HN.out (by have := HW.out.1; rwa [List.take_of_length_le (Nat.le_refl _)] at this)
      go_wp2
      go_ret
      exact ⟨by rw [hN]; rfl, HW.out.2⟩


theorem res_out {fn : Func} {q u : Tmp} (h : fn.results = #[.cell q 47, .tmp u]) (tmps : Array Value) (w : World) (g : Nat) (o : Ou) (v : Value) (hp : tmps.getD q undef = .pointer (some ⟨g, 0, none⟩)) (hg : Bk w g 47 (encO o).toArray) (hu : tmps.getD u undef = v) :
    (results fn tmps).run Try.prog w = .ok (.tuple #[o.val, v]) w := by
  rw [results_cell_tmp h, hp, hu]
  have hl := run_loadVar_row (P := Try.prog) w g 47 47 (encO o).toArray (0, 0) _ hg.hp Try.underlying47 rfl (by rw [sizeO]; rfl)
  simp [asAddr, hl, Result.andThen, encO]
/-- The first that holds. -/
def fstO (p : Ou → Bool) (l : List Ou) : Option Ou := l.find? p
set_option maxHeartbeats 8000000 in
set_option maxRecDepth 20000 in
theorem first_any (J : Nat) (p : Ou → Bool) (cb : Array Value) (ao : Option Addr) (c : Nat) (l : List Ou) (w : World) (hl : l.length ≤ 2097152) (hr : Outs w ao l)
    (hent : ∀ args w, (callFunc J args).run Try.prog w = .ok (.enter J args) w)
    (hop : ∀ s W, Below w.heap.size w W → Calls Try.prog J (#[Ou.val s] ++ cb) W fun e w' => e = .returned (.bool (p s)) ∧ Below W.heap.size W w') :
    Calls Try.prog 31 #[.slice ao l.length c, .func (.func J) #[] cb] w fun e w' => e = .returned (.tuple #[((fstO p l).getD Ou.zero).val, .bool (fstO p l).isSome]) ∧ Below w.heap.size w w' := by
  obtain ⟨B, hB⟩ : ∃ B, w.heap.size = B := ⟨_, rfl⟩
  obtain ⟨w1, hw1⟩ : ∃ w1, w.alloc (.cells #[.string ⟨#[]⟩, .int .i64 0, .int .i64 0, .int .i64 0, .int .i64 0, .int .i64 0] 47) = w1 := ⟨_, rfl⟩
  have HB1 : Hid (Below B w w1) := ⟨by rw [← hw1, ← hB]; exact (Below.refl _ _).alloc (Nat.le_refl _) _⟩
  have HK1 : Hid (Bk w1 B 47 (encO Ou.zero).toArray) := ⟨by rw [← hw1, ← hB]; exact Bk.new _ _ _⟩
  have HIX : Hid _ := ⟨ixO_any J p cb ao c l w1 (by omega) (hr.below HB1.out (Nat.le_of_eq hB)) hent (fun s W h => hop s W (by rw [hB]; exact HB1.out.trans (h.mono (by have := HB1.out.size; omega))))⟩
  have HU : Hid _ := ⟨idx_find p l⟩
  have HR : Hid _ := ⟨hr⟩
  clear hr hop
  generalize idxP p l = X at *
  go_enter Try.func31, Try.ntmps31
  go_upto_region 2 with (go_at_call 47; (with_reducible refine HIX.out.mono ?_); rintro e w2 ⟨rfl, hb2⟩; have HB2 : Hid _ := ⟨hb2⟩; clear hb2)
  clear hw1
  have HB3 : Hid (Below B w w2) := ⟨bt2 hB HB1.out HB2.out⟩
  have KP := HK1.out.bel HB2.out HK1.out.lt
  have HRX : Hid _ := ⟨HR.out.below HB3.out (Nat.le_of_eq hB)⟩
  clear HB2 HB1 HK1 HIX HR
  rcases HU.out with ⟨h1, h2⟩ | ⟨k, hk, h1, h2⟩
  · subst h2
    have HE : Hid (fstO p l = none) := ⟨h1⟩
    clear h1 HU
    have KE := KP.setR (encO Ou.zero).toArray
    have HFB : Hid (Below w.heap.size w (w2.setRow B (encO Ou.zero).toArray)) := ⟨by rw [hB]; exact bel_setR HB3.out B (Nat.le_refl _) _⟩
    go_upto_region 3 with (fail)
    iterate 1 go_step
    refine wpList_val (v := Ou.zero.val) (by kernel_rfl) (by kernel_rfl) ?_
    try simp only [Act.put, List.getElem_toArray, List.getElem_cons_succ, List.getElem_cons_zero, List.setIfInBounds_toArray, List.set_cons_zero, List.set_cons_succ]
    refine wpList_part (g := B) (off := 0) (val := Ou.zero.val) (new := (encO Ou.zero).toArray) rfl rfl (by kernel_rfl) (by kernel_rfl) KP (by kernel_rfl) (Nat.le_of_ble_eq_true (by kernel_rfl)) (oneAll (by kernel_rfl)) (by kernel_rfl) ?_
    try simp only [Act.put, List.getElem_toArray, List.getElem_cons_succ, List.getElem_cons_zero, List.setIfInBounds_toArray, List.set_cons_zero, List.set_cons_succ]
    go_wp2_with fail
    exact bodyPost_ret (v := .tuple #[Ou.zero.val, .bool false]) (res_out (q := 4) (u := 5) (by kernel_rfl) _ _ B Ou.zero _ (by kernel_rfl) KE (by kernel_rfl)) rfl ⟨by rw [HE.out]; rfl, HFB.out⟩
  · subst h2
    have HE : Hid (fstO p l = some l[k]) := ⟨h1⟩
    clear h1 HU
    obtain ⟨b, off, hao, hat⟩ : ∃ b off, ao = some ⟨b, off, none⟩ ∧ ∀ i, i < l.length → OutAt w2 b (off + i * 6) (l.getD i Ou.zero) := by
      rcases HRX.out with h | h
      · rw [h] at hk; simp at hk
      · exact h
    subst hao
    obtain ⟨c0, c1, c2, c3, c4, c5⟩ := hat k hk
    have hgd : l.getD k Ou.zero = l[k] := by simp [hk]
    rw [hgd] at c0 c1 c2 c3 c4 c5
    clear hat hgd
    generalize l[k] = x at *
    obtain ⟨nm, o1, o2, o3, o4, o5⟩ := x
    dsimp only at *
    have k0 := KP.cell 0 rfl
    have f0 := KP.fro 0
    have k1 := KP.cell 1 rfl
    have f1 := KP.fro 1
    have k2 := KP.cell 2 rfl
    have f2 := KP.fro 2
    have k3 := KP.cell 3 rfl
    have f3 := KP.fro 3
    have k4 := KP.cell 4 rfl
    have f4 := KP.fro 4
    have k5 := KP.cell 5 rfl
    have f5 := KP.fro 5
    have HKE : Hid _ := ⟨((((((KP.setC 0 (.string nm)).setC 1 (.int .i64 o1)).setC 2 (.int .i64 o2)).setC 3 (.int .i64 o3)).setC 4 (.int .i64 o4)).setC 5 (.int .i64 o5))⟩
    have HFE : Hid _ := ⟨(bel_setC (bel_setC (bel_setC (bel_setC (bel_setC (bel_setC HB3.out ⟨B, 0, none⟩ (Nat.le_refl B) (.string nm)) ⟨B, 1, none⟩ (Nat.le_refl B) (.int .i64 o1)) ⟨B, 2, none⟩ (Nat.le_refl B) (.int .i64 o2)) ⟨B, 3, none⟩ (Nat.le_refl B) (.int .i64 o3)) ⟨B, 4, none⟩ (Nat.le_refl B) (.int .i64 o4)) ⟨B, 5, none⟩ (Nat.le_refl B) (.int .i64 o5))⟩
    have HKP : Hid _ := ⟨KP⟩
    clear KP
    go_wp2
    exact bodyPost_ret (v := .tuple #[(⟨nm, o1, o2, o3, o4, o5⟩ : Ou).val, .bool true]) (res_out (q := 4) (u := 5) (by kernel_rfl) _ _ B ⟨nm, o1, o2, o3, o4, o5⟩ _ (by kernel_rfl) ⟨HKE.out.hp⟩ (by kernel_rfl)) rfl ⟨by rw [HE.out]; rfl, by rw [hB]; exact HFE.out⟩
end Go.Proofs.Ytibmblojannlcaa
