/- The document's Write, whole. -/
import Derived.Test.YtomboebfbipaaaaDoorCWriteX
namespace Go.Proofs.YtomboebfbipaaaaDoor
open Go.ChangeShapes Go.WideShapes Go.ChangeAt Go.RowKit
set_option linter.unusedVariables false
set_option linter.unusedSimpArgs false

theorem one_any (o : Oq) (w : World) (hm : mayB o = true) :
    Calls Tryd.prog 83 #[.agg #[.int .i64 o.k, .int .i64 o.r, .int .i64 o.n]] w fun e w' => ∃ v, e = .returned v ∧ Own w' w.heap.size v (oneB o) ∧ Below w.heap.size w w' := by
  obtain ⟨k, r, n⟩ := o
  by_cases k0 : k = 0
  · subst k0; exact one_0 r n w
  by_cases k1 : k = 1
  · subst k1; obtain ⟨h1, h2⟩ := may_adv hm rfl; exact one_1 r n w h1 h2
  by_cases k2 : k = 2
  · subst k2; exact one_2 r n w
  by_cases k3 : k = 3
  · subst k3; exact one_3 r n w
  by_cases k4 : k = 4
  · subst k4; exact one_4 r n w
  by_cases k5 : k = 5
  · subst k5
    obtain ⟨h1, h2⟩ := may_reg hm (.inr (.inr (.inl rfl)))
    have h3 : -2147483648 ≤ n ∧ n < 2147483648 := by
      simp [mayB] at hm
      exact ⟨hm.2.1, hm.2.2.1⟩
    by_cases hn : n ≤ 0
    · exact one_5a r n w h1 h2 h3.1 hn
    · exact one_5b r n w h1 h2 (by omega) h3.2
  by_cases k6 : k = 6
  · subst k6
    obtain ⟨h1, h2⟩ := may_reg hm (.inr (.inr (.inr (.inl rfl))))
    exact one_6 r n w h1 h2
  by_cases k7 : k = 7
  · subst k7; exact one_7 r n w
  by_cases k8 : k = 8
  · subst k8; exact one_8 r n w
  by_cases k9 : k = 9
  · subst k9; exact one_9 r n w
  by_cases k10 : k = 10
  · subst k10; exact one_10 r n w
  exfalso
  simp [mayB, k0, k1, k2, k3, k4, k5, k6, k7, k8, k9, k10] at hm

/-- What Write answers. -/
def writE (l : List Oq) : Int := if 4000 < l.length then 6 else if l.all mayB = true then 0 else 130
def writB (l : List Oq) : List Int := if 4000 < l.length then [] else if l.all mayB = true then l.flatMap oneB else []
theorem oneB_len (o : Oq) (hm : mayB o = true) : (oneB o).length ≤ 22 := by
  have h1 := ulB_len o.r
  have h2 := ulB_len o.n
  have h3 := ulB_len (-(o.n.tdiv 8))
  unfold oneB advB
  repeat' split
  all_goals try (simp [pl_len]; try omega)
  rename_i h5 _
  have hb : -2147483648 ≤ o.n ∧ o.n < 2147483648 := by
    simp [mayB, h5] at hm
    exact ⟨hm.2.1, hm.2.2.1⟩
  have := tdiv8 hb.1 hb.2
  have h4 := sl_len10 (-(o.n.tdiv 8)) (by omega)
  omega
theorem flat_len : ∀ (l : List Oq), l.all mayB = true → (l.flatMap oneB).length ≤ 22 * l.length
  | [], _ => by simp
  | o :: l, h => by
    simp only [List.all_cons, Bool.and_eq_true] at h
    have := oneB_len o h.1
    have := flat_len l h.2
    simp only [List.flatMap_cons, List.length_append, List.length_cons]
    omega

set_option maxHeartbeats 4000000 in
set_option maxRecDepth 10000 in
theorem rwrite_any (ao : Option Addr) (c : Nat) (l : List Oq) (w : World) (hl : l.length ≤ 5864062014634) (hr : Oqs w ao l) :
    Calls Tryd.prog 63 #[.slice ao l.length c] w fun e w' => ∃ v, e = .returned (.tuple #[v, .int .i64 (writE l)]) ∧ Own w' w.heap.size v (writB l) ∧ Below w.heap.size w w' := by
  have HR : Hid _ := ⟨hr⟩
  clear hr
  by_cases h4 : 4000 < l.length
  · have HE : Hid (writE l = 6 ∧ writB l = []) := ⟨by unfold writE; rw [if_pos h4], by unfold writB; rw [if_pos h4]⟩
    have h4' : (4000 : Int) < (l.length : Int) := by omega
    go_enter Tryd.func63, Tryd.ntmps63
    go_wp2
    go_ret2
    exact ⟨_, by rw [HE.out.1]; rfl, by rw [HE.out.2]; exact Own.nil _ _, Below.refl _ _⟩
  have h4' : ¬ (4000 : Int) < (l.length : Int) := by omega
  have HE : Hid ((l.all mayB = true → writE l = 0 ∧ writB l = l.flatMap oneB) ∧ (l.all mayB = false → writE l = 130 ∧ writB l = [])) := ⟨by
    unfold writE writB
    rw [if_neg h4, if_neg h4]
    exact ⟨fun h => by rw [if_pos h, if_pos h]; exact ⟨rfl, rfl⟩, fun h => by rw [h]; exact ⟨rfl, rfl⟩⟩⟩
  go_enter Tryd.func63, Tryd.ntmps63
  go_wp2
  go_loopw [5, 4] (fun i v wr => ∃ k : Nat, k ≤ l.length ∧ i = .int .i64 k ∧ Hid ((l.take k).all mayB = true ∧ Own wr w.heap.size v ((l.take k).flatMap oneB) ∧ Below w.heap.size w wr)) (fun i _ _ => l.length - (intOf i).toNat)
  case atStart => exact ⟨0, by omega, rfl, ⟨rfl, Own.nil _ _, Below.refl _ _⟩⟩
  case round =>
    obtain ⟨k, hk, rfl, HW⟩ := hrel
    by_cases hlt : k < l.length
    · obtain ⟨b, off, rfl, hat⟩ : ∃ b off, ao = some ⟨b, off, none⟩ ∧ ∀ i, i < l.length → OqAt w b (off + i * 3) (l.getD i Oq.none) := by
        rcases HR.out with h | h
        · rw [h] at hlt; simp at hlt
        · exact h
      obtain ⟨c0, c1, c2⟩ := (hat k hlt).below HW.out.2.2 (Nat.le_refl _)
      have hb0 : b < w.heap.size := World.block_lt_of_cell? w _ (hat k hlt).k
      have hget : l.getD k Oq.none = l[k] := by simp [hlt]
      have HT : Hid (l.take (k + 1) = l.take k ++ [l.getD k Oq.none]) := ⟨by rw [hget]; exact List.take_succ_eq_append_getElem hlt⟩
      have HIn : Hid (l.getD k Oq.none ∈ l) := ⟨by rw [hget]; exact List.getElem_mem hlt⟩
      clear hat hget
      generalize l.getD k Oq.none = o at *
      have HM := may_any o.k o.r o.n
      cases hm : mayB o with
      | false =>
        have hm' : mayB ⟨o.k, o.r, o.n⟩ = false := hm
        rw [hm'] at HM
        have HMM : Hid _ := ⟨HM⟩
        clear HM
        have hall : l.all mayB = false := by
          rw [List.all_eq_false]
          exact ⟨o, HIn.out, by rw [hm]; decide⟩
        have HEE : Hid _ := ⟨HE.out.2 hall⟩
        go_wp2_with (go_at_call 82; (with_reducible refine (HMM.out _).mono ?_); rintro e w1 ⟨he, hb1⟩; subst he)
        go_ret2
        exact ⟨_, by rw [HEE.out.1]; rfl, by rw [HEE.out.2]; exact Own.nil _ _, HW.out.2.2.trans (hb1.mono HW.out.2.2.size)⟩
      | true =>
        have hm' : mayB ⟨o.k, o.r, o.n⟩ = true := hm
        rw [hm'] at HM
        have HMM : Hid _ := ⟨HM⟩
        have HON : Hid _ := ⟨fun W => one_any o W hm⟩
        have HLn : Hid (((l.take k).flatMap oneB).length + (oneB o).length ≤ 140737488355328) := ⟨by
          have h1 := flat_len _ HW.out.1
          have h2 := oneB_len o hm
          rw [List.length_take] at h1
          omega⟩
        clear HM hm'
        go_wp2_with (first
          | (go_at_call 82; (with_reducible refine (HMM.out _).mono ?_); rintro e w1 ⟨he, hb1⟩; subst he; have H1 : Hid (Own w1 w.heap.size u4 ((l.take k).flatMap oneB) ∧ Below w.heap.size w w1 ∧ Below wr.heap.size wr w1) := ⟨HW.out.2.1.bel hb1, HW.out.2.2.trans (hb1.mono HW.out.2.2.size), hb1⟩; have d0 := (hb1.cell (p := ⟨b, off + k * 3, none⟩) (World.block_lt_of_cell? _ _ c0)).trans c0; have d1 := (hb1.cell (p := ⟨b, off + k * 3 + 1, none⟩) (World.block_lt_of_cell? _ _ c1)).trans c1; have d2 := (hb1.cell (p := ⟨b, off + k * 3 + 2, none⟩) (World.block_lt_of_cell? _ _ c2)).trans c2; clear hb1)
          | (go_at_call 83; (with_reducible refine (HON.out _).mono ?_); rintro e w2 ⟨v2, he, ho2, hb2⟩; subst he; have H2 : Hid (Own w2 w.heap.size u4 ((l.take k).flatMap oneB) ∧ Bt w2 v2 (oneB o) ∧ Below w.heap.size w w2) := ⟨H1.out.1.bel hb2, ho2.bt, H1.out.2.1.trans (hb2.mono H1.out.2.1.size)⟩; clear ho2 hb2)
          | (at_builtin; refine append_bt _ rfl _ _ rfl w.heap.size _ ((l.take k).flatMap oneB) rfl H2.out.1 _ (oneB o) rfl H2.out.2.1 HLn.out H2.out.2.2.size ?_; intro v3 w3 ho3 hb3; have H3 : Hid (Own w3 w.heap.size v3 ((l.take (k + 1)).flatMap oneB) ∧ Below w.heap.size w w3) := ⟨by rw [HT.out, List.flatMap_append]; simpa using ho3, H2.out.2.2.trans hb3⟩; clear ho3 hb3))
        go_roundw
        case rel => exact ⟨k + 1, hlt, by go_num, ⟨by rw [HT.out, List.all_append, HW.out.1]; simp [hm], H3.out.1, H3.out.2⟩⟩
        case measure => simp [intOf]; omega
    · obtain rfl : k = l.length := by omega
      have hA := HW.out.1
      rw [List.take_of_length_le (Nat.le_refl _)] at hA
      have HEE : Hid _ := ⟨HE.out.1 hA⟩
      have HO : Hid (Own wr w.heap.size u4 (l.flatMap oneB)) := ⟨by have := HW.out.2.1; rwa [List.take_of_length_le (Nat.le_refl _)] at this⟩
      clear hA
      go_wp2
      go_ret2
      exact ⟨_, by rw [HEE.out.1]; rfl, by rw [HEE.out.2]; exact HO.out, HW.out.2.2⟩
end Go.Proofs.YtomboebfbipaaaaDoor
