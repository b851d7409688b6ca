/- The program's Compile, whole. -/
import Derived.Test.YtpbnldfekadalaaDoorCEvE
namespace Go.Proofs.YtpbnldfekadalaaDoor
open Go.ChangeShapes Go.WideShapes Go.ChangeAt Go.RowKit
set_option linter.unusedVariables false
set_option linter.unusedSimpArgs false

/-- An event lies in memory. -/
def EvAt (w : World) (b off : Nat) (v : Ev) : Prop := ∃ aa ca, w.cell? ⟨b, off, none⟩ = some (.int .i64 v.p) ∧ w.cell? ⟨b, off + 1, none⟩ = some (.string v.s) ∧ w.cell? ⟨b, off + 2, none⟩ = some (.slice aa v.a.length ca) ∧ Ia w aa v.a
theorem EvAt.bel {w w' : World} {b off : Nat} {v : Ev} (h : EvAt w b off v) (hb : Below w.heap.size w w') : EvAt w' b off v := by
  obtain ⟨a, c, h1, h2, h3, h4⟩ := h
  exact ⟨a, c, up_belI h1 hb, up_belI h2 hb, up_belI h3 hb, h4.bel hb⟩
def Evs (w : World) (ao : Option Addr) (l : List Ev) : Prop := l.length = 0 ∨ ∃ b off, ao = some ⟨b, off, none⟩ ∧ ∀ i, i < l.length → EvAt w b (off + i * 3) (l.getD i Ev.zero)
theorem Evs.bel {w w' : World} {ao : Option Addr} {l : List Ev} (h : Evs w ao l) (hb : Below w.heap.size w w') : Evs w' ao l := by
  rcases h with h | ⟨b, off, e, h⟩
  · exact .inl h
  · exact .inr ⟨b, off, e, fun i hi => (h i hi).bel hb⟩
/-- An event is as small as memory lets it be. -/
def EvOk (v : Ev) : Prop := (-9223372036854775808 ≤ v.p ∧ v.p ≤ 9223372036854775807) ∧ v.a.length ≤ 140737488355328
theorem ev_in {l : List Ev} {i : Nat} (h : i < l.length) : l.getD i Ev.zero ∈ l := by simp [h]
theorem comR_none {l : List Ev} {size : Int} (hz : ¬ (size < 0 ∨ 1048576 < size)) (hn : ¬ 4000 < l.length) (h : evsM (esU size) l = none) : comR l size = (130, []) := by
  unfold comR; rw [if_neg hz, if_neg hn, h]
theorem comR_some {l : List Ev} {size : Int} {s : Es} (hz : ¬ (size < 0 ∨ 1048576 < size)) (hn : ¬ 4000 < l.length) (h : evsM (esU size) l = some s) : comR l size = if 4000 < s.L.length then (6, []) else (0, s.L) := by
  unfold comR; rw [if_neg hz, if_neg hn, h]
theorem comR_len (l : List Ev) (size : Int) : (comR l size).2.length ≤ 4000 := by
  unfold comR
  split
  · simp
  · split
    · simp
    · split
      · simp
      · split
        · simp
        · simp only; omega
/-- What Compile leaves. -/
def CE (r : Int × List Oq) (w : World) (e : Ending) (w' : World) : Prop := ∃ v, e = .returned (.tuple #[v, .int .i64 r.1]) ∧ OwnP w' w.heap.size v r.2 ∧ Below w.heap.size w w'

set_option maxRecDepth 20000 in
set_option maxHeartbeats 4000000 in
theorem pcompile_any (ao : Option Addr) (c : Nat) (l : List Ev) (size : Int) (w : World) (h : Evs w ao l) (hl : l.length ≤ 140737488355328) (hok : ∀ x ∈ l, EvOk x) (hs : -9223372036854775808 ≤ size ∧ size ≤ 9223372036854775807) (hf : Fz w) :
    Calls Tryd.prog 4 #[.slice ao l.length c, .int .i64 size] w (CE (comR l size) w) := by
  have HS : Hid _ := ⟨isSize_any size w⟩
  have hl' : (l.length : Int) ≤ 140737488355328 := by omega
  by_cases hz : size < 0 ∨ 1048576 < size
  · have hE : comR l size = (11, []) := by unfold comR; rw [if_pos hz]
    have hd : (decide (0 ≤ size) && decide (size ≤ 1048576)) = false := by simp; omega
    rw [hd] at HS
    rw [hE]
    clear hd hE h hok hf
    go_enter Tryd.func4, Tryd.ntmps4
    go_wp2_with (go_at_call 11; (with_reducible refine HS.out.mono ?_); rintro e wn ⟨he, hwn⟩; subst he; subst wn)
    go_ret2
    exact ⟨_, rfl, OwnP.nil _ _, Below.refl _ _⟩
  have hd : (decide (0 ≤ size) && decide (size ≤ 1048576)) = true := by simp; omega
  rw [hd] at HS
  clear hd
  by_cases hn : 4000 < l.length
  · have hE : comR l size = (6, []) := by unfold comR; rw [if_neg hz, if_pos hn]
    have g1 : (4000 : Int) < (l.length : Int) := by omega
    rw [hE]
    clear hE h hok hf
    go_enter Tryd.func4, Tryd.ntmps4
    go_wp2_with (go_at_call 11; (with_reducible refine HS.out.mono ?_); rintro e wn ⟨he, hwn⟩; subst he; subst wn)
    go_ret2
    exact ⟨_, rfl, OwnP.nil _ _, Below.refl _ _⟩
  have g1 : ¬ (4000 : Int) < (l.length : Int) := by omega
  have h0 : 0 ≤ size := by omega
  have h1 : size ≤ 1048576 := by omega
  obtain ⟨R, hR⟩ : ∃ R, evsM (esU size) l = R := ⟨_, rfl⟩
  have hE : (evsM (esU size) l = none → comR l size = (130, [])) ∧ ∀ s, evsM (esU size) l = some s → comR l size = if 4000 < s.L.length then (6, []) else (0, s.L) := ⟨comR_none hz hn, fun s h => comR_some hz hn h⟩
  obtain ⟨C, hC⟩ : ∃ C, comR l size = C := ⟨_, rfl⟩
  rw [hC]
  rw [hC] at hE
  have HE : Hid _ := ⟨hE⟩
  have HR : Hid _ := ⟨hR⟩
  have HN : Hid _ := ⟨newCompiler_any size h0 h1 w hf⟩
  have HEv : Hid _ := ⟨h⟩
  have HOk : Hid _ := ⟨hok⟩
  have HF : Hid _ := ⟨hf⟩
  have HI0 : Hid _ := ⟨ei_new h0 h1⟩
  clear hE hC hR h hok hf hs
  go_enter Tryd.func4, Tryd.ntmps4
  go_upto_region 6 with (first
    | (go_at_call 11; (with_reducible refine HS.out.mono ?_); rintro e wn ⟨he, hwn⟩; subst he; subst wn)
    | (go_at_call 12; (with_reducible refine HN.out.mono ?_); rintro e w1 ⟨cb, tb, vr, vk, he, hk, hb⟩; subst he; have HK1 : Hid _ := ⟨hk⟩; have HB1 : Hid _ := ⟨hb⟩; clear hk hb))
  go_wp2
  go_loopw [19] (fun iv wr => ∃ k : Nat, k ≤ l.length ∧ iv = .int .i64 k ∧ Hid (∃ s vr vk vo, evsM (esU size) (l.take k) = some s ∧ Ei k s ∧ KA nX w.heap.size wr cb tb s vr vk vo ∧ Below w.heap.size w wr)) (fun iv _ => l.length - (intOf iv).toNat)
  case atStart => exact ⟨0, by omega, rfl, ⟨esU size, vr, vk, _, rfl, HI0.out, HK1.out, HB1.out⟩⟩
  case round =>
    obtain ⟨k, hk, rfl, HW⟩ := hrel
    by_cases hlt : k < l.length
    · have q1 : (k : Int) < (l.length : Int) := by omega
      have q0 : (0 : Int) ≤ (k : Int) := by omega
      obtain ⟨s, vr1, vk1, vo1, hM, hI, hKA, hBw⟩ := HW.out
      obtain ⟨b, off, rfl, hat⟩ : ∃ b off, ao = some ⟨b, off, none⟩ ∧ ∀ i, i < l.length → EvAt wr b (off + i * 3) (l.getD i Ev.zero) := by
        rcases HEv.out.bel hBw with h | h
        · omega
        · exact h
      obtain ⟨aa, ca, c0, c1, c2, hIa⟩ := hat k hlt
      have hv := HOk.out _ (ev_in hlt)
      have hnx := evsM_take hlt hM
      clear hat HW
      generalize l.getD k Ev.zero = v at *
      have HIa : Hid _ := ⟨hIa.bel (bel_new wr #[.int .i64 v.p, .string v.s, .slice aa v.a.length ca] 27)⟩
      have BE : Below w.heap.size w (wr.alloc (.cells #[.int .i64 v.p, .string v.s, .slice aa v.a.length ca] 27)) := hBw.trans ((bel_new wr _ _).mono hBw.size)
      have HCv : Hid _ := ⟨event_any (hKA.bel (bel_new wr #[.int .i64 v.p, .string v.s, .slice aa v.a.length ca] 27)) hI (by omega) v aa ca HIa.out hv.2 hv.1 (HF.out.bel BE HF.out.z) HF.out.z⟩
      have HM : Hid _ := ⟨hnx⟩
      have HI : Hid _ := ⟨hI⟩
      have HBE : Hid _ := ⟨BE⟩
      clear hM hI hKA hBw hIa hnx BE hv
      cases hev : evM s v with
      | none =>
        rw [hev] at HCv HM
        have hRn : R = none := by rw [← HR.out]; exact evsM_none HM.out
        subst hRn
        have hCe : C = (130, []) := HE.out.1 HR.out
        subst hCe
        clear hev
        go_wp2_with (go_at_call 13; (with_reducible refine HCv.out.mono ?_); rintro e w4 ⟨he, hb4, _⟩; subst he; have HB4 : Hid _ := ⟨hb4⟩; clear hb4)
        go_ret2
        exact ⟨_, rfl, OwnP.nil _ _, HBE.out.trans HB4.out⟩
      | some s' =>
        rw [hev] at HCv HM
        have HI2 : Hid _ := ⟨(ev_ei HI.out hev).1⟩
        clear hev
        go_wp2_with (go_at_call 13; (with_reducible refine HCv.out.mono ?_); rintro e w4 ⟨he, hb4, hn4⟩; subst he; have HB4 : Hid _ := ⟨hb4⟩; have HN4 : Hid _ := ⟨hn4 s' rfl⟩; clear hb4 hn4)
        go_roundw
        case rel =>
          obtain ⟨v1, v2, v3, hk4⟩ := HN4.out
          exact ⟨k + 1, hlt, by go_num, ⟨s', v1, v2, v3, HM.out, HI2.out, hk4, HBE.out.trans HB4.out⟩⟩
        case measure => simp [intOf]; omega
    · obtain rfl : k = l.length := by omega
      obtain ⟨s, vr1, vk1, vo1, hM, hI, hKA, hBw⟩ := HW.out
      rw [List.take_of_length_le (Nat.le_refl _), HR.out] at hM
      subst hM
      obtain ⟨oa, oc, hvo, _⟩ := hKA.op.any
      subst hvo
      have k2 := hKA.bk.cell 2 rfl
      have HO : Hid _ := ⟨hKA.op⟩
      have HBw : Hid _ := ⟨hBw⟩
      have hle := hI.L
      clear hI hKA hBw HW
      by_cases h4 : 4000 < s.L.length
      · have hCe : C = (6, []) := (HE.out.2 s HR.out).trans (if_pos h4)
        have g4 : (4000 : Int) < (s.L.length : Int) := by omega
        subst hCe
        go_wp2
        go_ret2
        exact ⟨_, rfl, OwnP.nil _ _, HBw.out⟩
      · have hCe : C = (0, s.L) := (HE.out.2 s HR.out).trans (if_neg h4)
        have g4 : ¬ (4000 : Int) < (s.L.length : Int) := by omega
        subst hCe
        go_wp2
        go_ret2
        exact ⟨_, rfl, HO.out, HBw.out⟩
end Go.Proofs.YtpbnldfekadalaaDoor
