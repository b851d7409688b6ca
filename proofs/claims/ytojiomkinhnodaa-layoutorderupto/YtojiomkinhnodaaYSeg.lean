/- around: the segment of sections of the image. -/
import Derived.Test.YtojiomkinhnodaaYLayP
namespace Go.Proofs.Ytojiomkinhnodaa
open Go.ChangeShapes Go.WideShapes Go.ChangeAt Go.RowKit Go.Maps
set_option linter.unusedVariables false
set_option linter.unusedSimpArgs false

structure OutAt (w : World) (b o : Nat) (s : Ou) : Prop where
  c0 : w.cell? ⟨b, o, none⟩ = some (.string s.nm)
  c1 : w.cell? ⟨b, o + 1, none⟩ = some (.int .i64 s.ty)
  c2 : w.cell? ⟨b, o + 2, none⟩ = some (.int .i64 s.fl)
  c3 : w.cell? ⟨b, o + 3, none⟩ = some (.int .i64 s.al)
  c4 : w.cell? ⟨b, o + 4, none⟩ = some (.int .i64 s.ad)
  c5 : w.cell? ⟨b, o + 5, none⟩ = some (.int .i64 s.sz)
theorem OutAt.below {w w' : World} {b o : Nat} {s : Ou} (h : OutAt w b o s) {B : Nat} (hb : Below B w w') (hB : w.heap.size ≤ B) : OutAt w' b o s := by
  have k : b < B := Nat.lt_of_lt_of_le (World.block_lt_of_cell? w ⟨b, o, none⟩ h.c0) hB
  exact ⟨(hb.cell (p := ⟨b, o, none⟩) k).trans h.c0, (hb.cell (p := ⟨b, o + 1, none⟩) k).trans h.c1, (hb.cell (p := ⟨b, o + 2, none⟩) k).trans h.c2, (hb.cell (p := ⟨b, o + 3, none⟩) k).trans h.c3, (hb.cell (p := ⟨b, o + 4, none⟩) k).trans h.c4, (hb.cell (p := ⟨b, o + 5, none⟩) k).trans h.c5⟩
def Outs (w : World) (ao : Option Addr) (l : List Ou) : Prop :=
  l = [] ∨ ∃ b off, ao = some ⟨b, off, none⟩ ∧ ∀ i, i < l.length → OutAt w b (off + i * 6) (l.getD i Ou.zero)
theorem Outs.below {w w' : World} {ao : Option Addr} {l : List Ou} (h : Outs w ao l) {B : Nat} (hb : Below B w w') (hB : w.heap.size ≤ B) : Outs w' ao l := by
  rcases h with h | ⟨b, off, e, h⟩
  · exact .inl h
  · exact .inr ⟨b, off, e, fun i hi => (h i hi).below hb hB⟩
theorem outs_of {w : World} {base : Nat} {v : Value} {l : List Ou} (h : OwnR 47 6 encO w base v l) : ∃ ao cap, v = .slice ao l.length cap ∧ Outs w ao l := by
  obtain ⟨ao, cap, hv, _, _, _, hc⟩ := h.any encO_len
  refine ⟨ao, cap, hv, ?_⟩
  rcases hc with hc | ⟨g, hg, _, _, hc⟩
  · exact .inl hc
  · refine .inr ⟨g, 0, hg, fun i hi => ?_⟩
    have h := hc i hi
    have e : l.getD i Ou.zero = l[i] := by simp [hi]
    rw [e, Nat.zero_add]
    exact ⟨h 0 (by decide), h 1 (by decide), h 2 (by decide), h 3 (by decide), h 4 (by decide), h 5 (by decide)⟩
abbrev Sg.val (s : Sg) : Value := .agg #[.int .i64 s.ty, .int .i64 s.fl, .int .i64 s.ad, .int .i64 s.off, .int .i64 s.sz, .int .i64 s.me, .int .i64 s.al]
def encG (s : Sg) : List Value := [.int .i64 s.ty, .int .i64 s.fl, .int .i64 s.ad, .int .i64 s.off, .int .i64 s.sz, .int .i64 s.me, .int .i64 s.al]
theorem encG_len (r : Sg) : (encG r).length = 7 := rfl
theorem encG_one (r : Sg) : ∀ v ∈ encG r, v.oneCell' = true := List.all_eq_true.1 rfl
theorem infoG : (Try.prog.info? 57).map (fun i => (i.zero, i.size, i.bytes)) = some (some (.agg (encG Sg.zero).toArray), 7, 56) := by kernel_rfl
theorem sizeG : (Try.prog.info? 57).map (·.size) = some 7 := by kernel_rfl
def arO (a : Int) (s : Sg) (o : Ou) : Sg := ⟨s.ty, s.fl, s.ad, s.off, if o.ty == 8 then s.sz else o.ad + o.sz - a, o.ad + o.sz - a, max s.al o.al⟩
def arL (l : List Ou) : Sg := l.foldl (arO (l.headD default).ad) ⟨0, 0, (l.headD default).ad, (l.headD default).ad, 0, 0, 0⟩
/-- The numbers are small. -/
def OuB (l : List Ou) : Prop := ∀ o ∈ l, 0 ≤ o.ad ∧ 0 ≤ o.sz ∧ o.ad + o.sz ≤ 16777216

set_option maxHeartbeats 8000000 in
set_option maxRecDepth 20000 in
theorem around_any (ao : Option Addr) (c : Nat) (l : List Ou) (w : World) (hne : l ≠ []) (hb : OuB l) (hn : l.length ≤ 2097152) (h : Outs w ao l) : Calls Try.prog 54 #[.slice ao l.length c] w fun e w' => e = .returned (arL l).val ∧ Below w.heap.size w w' := by
  obtain ⟨b, off, rfl, hat⟩ : ∃ b off, ao = some ⟨b, off, none⟩ ∧ ∀ i, i < l.length → OutAt w b (off + i * 6) (l.getD i Ou.zero) := by
    rcases h with h | h
    · exact absurd h hne
    · exact h
  have hl0 : 0 < l.length := List.length_pos_iff.2 hne
  obtain ⟨a0, r0, hl⟩ : ∃ x r, l = x :: r := by
    cases l with
    | nil => exact absurd rfl hne
    | cons x r => exact ⟨x, r, rfl⟩
  have c4 : w.cell? ⟨b, off + 4, none⟩ = some (.int .i64 a0.ad) := by
    have := (hat 0 hl0).c4
    rw [Nat.zero_mul, Nat.add_zero] at this
    rw [this, hl]; rfl
  have HAR : Hid (arL l = l.foldl (arO a0.ad) ⟨0, 0, a0.ad, a0.ad, 0, 0, 0⟩) := ⟨by unfold arL; rw [hl]; rfl⟩
  have HBD : Hid _ := ⟨hb⟩
  have HAT : Hid (∀ W, Below w.heap.size w W → ∀ i, i < l.length → OutAt W b (off + i * 6) (l.getD i Ou.zero)) := ⟨fun W hW i hi => (hat i hi).below hW (Nat.le_refl _)⟩
  obtain ⟨h0a, h0b, h0c⟩ := hb a0 (by rw [hl]; simp)
  generalize a0.ad = A at *
  clear hl hat h hb hne
  obtain ⟨P, hP⟩ : ∃ P, w.heap.size = P := ⟨_, rfl⟩
  have K0 : Bk (w.alloc (.cells #[.int .i64 0, .int .i64 0, .int .i64 0, .int .i64 0, .int .i64 0, .int .i64 0, .int .i64 0] 57)) P 57 #[.int .i64 0, .int .i64 0, .int .i64 0, .int .i64 0, .int .i64 0, .int .i64 0, .int .i64 0] := by rw [← hP]; exact Bk.new _ _ _
  have HB0 : Hid (Below P w (w.alloc (.cells #[.int .i64 0, .int .i64 0, .int .i64 0, .int .i64 0, .int .i64 0, .int .i64 0, .int .i64 0] 57))) := ⟨by rw [← hP]; exact (Below.refl _ _).alloc (Nat.le_refl _) _⟩
  have c4' := cell_al c4 (.cells #[.int .i64 0, .int .i64 0, .int .i64 0, .int .i64 0, .int .i64 0, .int .i64 0, .int .i64 0] 57)
  have hz1 : (w.alloc (.cells #[.int .i64 0, .int .i64 0, .int .i64 0, .int .i64 0, .int .i64 0, .int .i64 0, .int .i64 0] 57)).heap.size = P + 1 := by rw [← hP]; simp
  have HK0 : Hid _ := ⟨K0⟩
  clear K0
  go_enter Try.func54, Try.ntmps54
  go_upto_region 1 with (fail)
  generalize w.alloc (.cells #[.int .i64 0, .int .i64 0, .int .i64 0, .int .i64 0, .int .i64 0, .int .i64 0, .int .i64 0] 57) = w0 at *
  have HK1 : Hid (Bk (w0.alloc (.cells #[.int .i64 0, .int .i64 0, .int .i64 A, .int .i64 A, .int .i64 0, .int .i64 0, .int .i64 0] 57)) (P + 1) 57 (encG ⟨0, 0, A, A, 0, 0, 0⟩).toArray) := ⟨by rw [← hz1]; exact Bk.new _ _ _⟩
  have HK01 : Hid (Bk (w0.alloc (.cells #[.int .i64 0, .int .i64 0, .int .i64 A, .int .i64 A, .int .i64 0, .int .i64 0, .int .i64 0] 57)) P 57 #[.int .i64 0, .int .i64 0, .int .i64 0, .int .i64 0, .int .i64 0, .int .i64 0, .int .i64 0]) := ⟨HK0.out.alloc _⟩
  have HB1 : Hid (Below P w (w0.alloc (.cells #[.int .i64 0, .int .i64 0, .int .i64 A, .int .i64 A, .int .i64 0, .int .i64 0, .int .i64 0] 57))) := ⟨HB0.out.alloc (by omega) _⟩
  go_upto_region 3 with (fail)
  clear c4 c4' hz1
  generalize w0.alloc (.cells #[.int .i64 0, .int .i64 0, .int .i64 A, .int .i64 A, .int .i64 0, .int .i64 0, .int .i64 0] 57) = w1 at *
  go_upto_region 4 with (fail)
  go_loopw [16] (fun i wr => ∃ t : Nat, t ≤ l.length ∧ i = .int .i64 t ∧ Hid (Bk wr (P + 1) 57 (encG ((l.take t).foldl (arO A) ⟨0, 0, A, A, 0, 0, 0⟩)).toArray ∧ Bk wr P 57 #[.int .i64 0, .int .i64 0, .int .i64 0, .int .i64 0, .int .i64 0, .int .i64 0, .int .i64 0] ∧ Below P w wr)) (fun i _ => l.length - (intOf i).toNat)
  case atStart => exact ⟨0, by omega, rfl, ⟨HK1.out, HK01.out, HB1.out⟩⟩
  case round =>
    obtain ⟨t, ht, rfl, HV⟩ := hrel
    by_cases hlt : t < l.length
    · obtain ⟨c0, c1, c2, c3, c4, c5⟩ := HAT.out wr (by rw [hP]; exact HV.out.2.2) t hlt
      have hgd : l.getD t Ou.zero = l[t] := by simp [hlt]
      rw [hgd] at c0 c1 c2 c3 c4 c5
      obtain ⟨b0, b1, b2⟩ := HBD.out _ (List.getElem_mem hlt)
      have HST : Hid ((l.take (t + 1)).foldl (arO A) ⟨0, 0, A, A, 0, 0, 0⟩ = arO A ((l.take t).foldl (arO A) ⟨0, 0, A, A, 0, 0, 0⟩) l[t]) := ⟨by rw [List.take_succ_eq_append_getElem hlt, List.foldl_append]; rfl⟩
      clear hgd
      obtain ⟨x, hx⟩ : ∃ x, x = l[t] := ⟨_, rfl⟩
      rw [← hx] at c0 c1 c2 c3 c4 c5 b0 b1 b2 HST
      clear hx
      generalize hS1 : (l.take (t + 1)).foldl (arO A) ⟨0, 0, A, A, 0, 0, 0⟩ = S1 at *
      have HS1 : Hid _ := ⟨hS1⟩
      clear hS1
      generalize (l.take t).foldl (arO A) ⟨0, 0, A, A, 0, 0, 0⟩ = S0 at *
      obtain ⟨sty, sfl, sad, soff, ssz, sme, sal⟩ := S0
      obtain ⟨onm, oty, ofl, oal, oad, osz⟩ := x
      dsimp only [arO] at *
      obtain ⟨t8, h8⟩ : ∃ b, (oty == 8) = b := ⟨_, rfl⟩
      have h8' : (oty != 8) = !t8 := by rw [bne, h8]
      rw [h8] at HST
      have HO : Hid (Bk (wr.alloc (.cells #[.string onm, .int .i64 oty, .int .i64 ofl, .int .i64 oal, .int .i64 oad, .int .i64 osz] 47)) wr.heap.size 47 #[.string onm, .int .i64 oty, .int .i64 ofl, .int .i64 oal, .int .i64 oad, .int .i64 osz]) := ⟨Bk.new _ _ _⟩
      have HKS : Hid (Bk (wr.alloc (.cells #[.string onm, .int .i64 oty, .int .i64 ofl, .int .i64 oal, .int .i64 oad, .int .i64 osz] 47)) (P + 1) 57 #[.int .i64 sty, .int .i64 sfl, .int .i64 sad, .int .i64 soff, .int .i64 ssz, .int .i64 sme, .int .i64 sal]) := ⟨HV.out.1.alloc _⟩
      have HKP : Hid (Bk (wr.alloc (.cells #[.string onm, .int .i64 oty, .int .i64 ofl, .int .i64 oal, .int .i64 oad, .int .i64 osz] 47)) P 57 #[.int .i64 0, .int .i64 0, .int .i64 0, .int .i64 0, .int .i64 0, .int .i64 0, .int .i64 0]) := ⟨HV.out.2.1.alloc _⟩
      have HBB : Hid (Below P w (wr.alloc (.cells #[.string onm, .int .i64 oty, .int .i64 ofl, .int .i64 oal, .int .i64 oad, .int .i64 osz] 47))) := ⟨HV.out.2.2.alloc (by have := HV.out.2.1.lt; omega) _⟩
      have HQ : Hid (wr.heap.size ≠ P + 1) := ⟨by have := HV.out.1.lt; omega⟩
      go_upto_region 6 with (fail)
      clear c0 c1 c2 c3 c4 c5 HV
      obtain ⟨Q, hQ⟩ : ∃ Q, wr.heap.size = Q := ⟨_, rfl⟩
      rw [hQ] at HO HQ ⊢
      clear hQ
      generalize wr.alloc (.cells #[.string onm, .int .i64 oty, .int .i64 ofl, .int .i64 oal, .int .i64 oad, .int .i64 osz] 47) = v1 at *
      have o3 := HO.out.cell 3 rfl
      have s6 := HKS.out.cell 6 rfl
      have f6 := HKS.out.fro 6
      go_upto_region 7 with (fail)
      have HO2 : Hid (Bk (v1.setCell ⟨P + 1, 6, none⟩ (.int .i64 (max sal oal))) Q 47 #[.string onm, .int .i64 oty, .int .i64 ofl, .int .i64 oal, .int .i64 oad, .int .i64 osz]) := ⟨HO.out.setCo _ _ HQ.out⟩
      have HS2 : Hid (Bk (v1.setCell ⟨P + 1, 6, none⟩ (.int .i64 (max sal oal))) (P + 1) 57 #[.int .i64 sty, .int .i64 sfl, .int .i64 sad, .int .i64 soff, .int .i64 ssz, .int .i64 sme, .int .i64 (max sal oal)]) := ⟨HKS.out.setC 6 _⟩
      have HP2 : Hid (Bk (v1.setCell ⟨P + 1, 6, none⟩ (.int .i64 (max sal oal))) P 57 #[.int .i64 0, .int .i64 0, .int .i64 0, .int .i64 0, .int .i64 0, .int .i64 0, .int .i64 0]) := ⟨HKP.out.setCo _ _ (show P ≠ P + 1 by omega)⟩
      have HB2 : Hid (Below P w (v1.setCell ⟨P + 1, 6, none⟩ (.int .i64 (max sal oal)))) := ⟨bel_setC HBB.out _ (show P ≤ P + 1 by omega) _⟩
      clear o3 s6 f6 HO HKS HKP HBB
      generalize v1.setCell ⟨P + 1, 6, none⟩ (.int .i64 (max sal oal)) = v2 at *
      have o4 := HO2.out.cell 4 rfl
      have o5 := HO2.out.cell 5 rfl
      have s5 := HS2.out.cell 5 rfl
      have f5 := HS2.out.fro 5
      go_upto_region 8 with (fail)
      have HO3 : Hid (Bk (v2.setCell ⟨P + 1, 5, none⟩ (.int .i64 (oad + osz - A))) Q 47 #[.string onm, .int .i64 oty, .int .i64 ofl, .int .i64 oal, .int .i64 oad, .int .i64 osz]) := ⟨HO2.out.setCo _ _ HQ.out⟩
      have HS3 : Hid (Bk (v2.setCell ⟨P + 1, 5, none⟩ (.int .i64 (oad + osz - A))) (P + 1) 57 #[.int .i64 sty, .int .i64 sfl, .int .i64 sad, .int .i64 soff, .int .i64 ssz, .int .i64 (oad + osz - A), .int .i64 (max sal oal)]) := ⟨HS2.out.setC 5 _⟩
      have HP3 : Hid (Bk (v2.setCell ⟨P + 1, 5, none⟩ (.int .i64 (oad + osz - A))) P 57 #[.int .i64 0, .int .i64 0, .int .i64 0, .int .i64 0, .int .i64 0, .int .i64 0, .int .i64 0]) := ⟨HP2.out.setCo _ _ (show P ≠ P + 1 by omega)⟩
      have HB3 : Hid (Below P w (v2.setCell ⟨P + 1, 5, none⟩ (.int .i64 (oad + osz - A)))) := ⟨bel_setC HB2.out _ (show P ≤ P + 1 by omega) _⟩
      clear o4 o5 s5 f5 HO2 HS2 HP2 HB2
      generalize v2.setCell ⟨P + 1, 5, none⟩ (.int .i64 (oad + osz - A)) = v3 at *
      have o1 := HO3.out.cell 1 rfl
      have q4 := HS3.out.cell 4 rfl
      have q5 := HS3.out.cell 5 rfl
      have qf := HS3.out.fro 4
      cases t8
      · have HS4 : Hid (Bk (v3.setCell ⟨P + 1, 4, none⟩ (.int .i64 (oad + osz - A))) (P + 1) 57 (encG S1).toArray) := ⟨by rw [HST.out]; have := HS3.out.setC 4 (.int .i64 (oad + osz - A)); exact this⟩
        have HP4 : Hid (Bk (v3.setCell ⟨P + 1, 4, none⟩ (.int .i64 (oad + osz - A))) P 57 #[.int .i64 0, .int .i64 0, .int .i64 0, .int .i64 0, .int .i64 0, .int .i64 0, .int .i64 0]) := ⟨HP3.out.setCo _ _ (show P ≠ P + 1 by omega)⟩
        have HB4 : Hid (Below P w (v3.setCell ⟨P + 1, 4, none⟩ (.int .i64 (oad + osz - A)))) := ⟨bel_setC HB3.out _ (show P ≤ P + 1 by omega) _⟩
        go_wp2
        go_roundw
        case rel => first | exact ⟨t + 1, hlt, by go_num, ⟨by rw [HS1.out]; exact HS4.out, HP4.out, HB4.out⟩⟩ | exact ⟨_, _, ⟨t + 1, hlt, by go_num, ⟨by rw [HS1.out]; exact HS4.out, HP4.out, HB4.out⟩⟩, rfl, rfl⟩
        case measure => simp [intOf]; omega
      · have HS4 : Hid (Bk v3 (P + 1) 57 (encG S1).toArray) := ⟨by rw [HST.out]; have := HS3.out; exact this⟩
        go_wp2
        go_roundw
        case rel => first | exact ⟨t + 1, hlt, by go_num, ⟨by rw [HS1.out]; exact HS4.out, HP3.out, HB3.out⟩⟩ | exact ⟨_, _, ⟨t + 1, hlt, by go_num, ⟨by rw [HS1.out]; exact HS4.out, HP3.out, HB3.out⟩⟩, rfl, rfl⟩
        case measure => simp [intOf]; omega
    · obtain rfl : t = l.length := by omega
      rw [List.take_of_length_le (Nat.le_refl _), ← HAR.out] at HV
      have KP := HV.out.2.1
      have HFB : Hid (Below P w (wr.setRow P (encG (arL l)).toArray)) := ⟨bel_setR HV.out.2.2 P (Nat.le_refl _) _⟩
      have KE := KP.setR (encG (arL l)).toArray
      go_upto_region 11 with (fail)
      iterate 1 go_step
      refine wpList_load_of (p := ⟨P + 1, 0, none⟩) (v := (arL l).val) rfl (by kernel_rfl) (by kernel_rfl) (HV.out.1.loadA 0 _ Try.underlying57 sizeG rfl rfl) ?_
      try simp only [Act.put, List.getElem_toArray, List.getElem_cons_succ, List.getElem_cons_zero, List.setIfInBounds_toArray, List.set_cons_zero, List.set_cons_succ]
      refine wpList_part (g := P) (off := 0) (val := (arL l).val) (new := (encG (arL l)).toArray) rfl rfl (by kernel_rfl) (by kernel_rfl) KP (by kernel_rfl) (Nat.le_of_ble_eq_true (by kernel_rfl)) (oneAll (by kernel_rfl)) (by kernel_rfl) ?_
      try simp only [Act.put, List.getElem_toArray, List.getElem_cons_succ, List.getElem_cons_zero, List.setIfInBounds_toArray, List.set_cons_zero, List.set_cons_succ]
      refine wpList_nil ?_
      go_wp2_with fail
      exact bodyPost_ret (v := (arL l).val) (results_cell_row (p := 2) (ty := 57) (by kernel_rfl) _ _ P 57 _ (0, 0) _ (by kernel_rfl) KE.hp Try.underlying57 rfl (by kernel_rfl)) rfl ⟨rfl, by first | exact HFB.out | (rw [hP]; exact HFB.out)⟩
end Go.Proofs.Ytojiomkinhnodaa
