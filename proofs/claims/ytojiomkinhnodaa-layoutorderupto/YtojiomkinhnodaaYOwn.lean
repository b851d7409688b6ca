/- The objects' own copies. -/
import Derived.Test.YtojiomkinhnodaaYCopy
namespace Go.Proofs.Ytojiomkinhnodaa
open Go.ChangeShapes Go.WideShapes Go.ChangeAt Go.RowKit Go.Maps
set_option linter.unusedVariables false
set_option linter.unusedSimpArgs false

def encFo (f : Fl) : List Value := [.slice f.sa f.secs.length f.sc, .slice f.ya f.syms.length f.yc]
theorem encFo_len (r : Fl) : (encFo r).length = 2 := rfl
theorem encFo_one (r : Fl) : ∀ v ∈ encFo r, v.oneCell' = true := List.all_eq_true.1 rfl
theorem infoFo : (Try.prog.info? 41).map (fun i => (i.zero, i.size, i.bytes)) = some (some (.agg (encFo Fl.zero).toArray), 2, 48) := by kernel_rfl
theorem own_flsO {w : World} {base : Nat} {ao : Option Addr} {cap : Nat} {l : List Fl} (h : OwnR 41 2 encFo w base (.slice ao l.length cap) l) (hin : ∀ f ∈ l, FlIn w f) : Fls w ao l := by
  obtain ⟨ao', cap', hv, _, _, _, hc⟩ := h.any encFo_len
  injection hv with h1 h2 h3
  subst h1
  rcases hc with hc | ⟨g, hg, _, _, hc⟩
  · exact .inl hc
  · refine .inr ⟨g, 0, hg, fun i hi => ?_⟩
    have h := hc i hi
    have e : l.getD i Fl.zero = l[i] := by simp [hi]
    rw [e, Nat.zero_add]
    exact ⟨h 0 (by decide), h 1 (by decide), hin _ (List.getElem_mem hi)⟩
/-- What a copy keeps. -/
def Fl.kf (f : Fl) : List Sec × List Sym := (f.secs.map Sec.key, f.syms)

set_option maxHeartbeats 16000000 in
set_option maxRecDepth 20000 in
theorem own_anyR (ao : Option Addr) (c : Nat) (l : List Fl) (w : World) (hn : l.length ≤ 1048577) (hb : ∀ f ∈ l, FlB f) (hin : Fls w ao l) (hrd : ∀ f ∈ l, RdF w f) :
    Calls Try.prog 7 #[.slice ao l.length c] w fun e w' => ∃ (L : List Fl) (va : Option Addr) (vc : Nat), e = .returned (.slice va L.length vc) ∧ L.map Fl.kf = l.map Fl.kf ∧ OwnR 41 2 encFo w' w.heap.size (.slice va L.length vc) L ∧ (∀ f ∈ L, GO w' f) ∧ Below w.heap.size w w' := by
  obtain ⟨B, hB⟩ : ∃ B, w.heap.size = B := ⟨_, rfl⟩
  have HIN : Hid _ := ⟨hin⟩
  have HFB : Hid _ := ⟨hb⟩
  have HRD : Hid _ := ⟨hrd⟩
  have HF : Hid (Below B w w) := ⟨Below.refl _ _⟩
  clear hin hb hrd
  go_enter Try.func7, Try.ntmps7
  go_upto_region 3 with (fail)
  go_loopw [3, 4] (fun v i wr => ∃ (k : Nat) (L : List Fl), k ≤ l.length ∧ i = .int .i64 k ∧ Hid (L.map Fl.kf = (l.take k).map Fl.kf ∧ Below B w wr ∧ OwnR 41 2 encFo wr B v L ∧ ∀ g ∈ L, GO wr g)) (fun _ i _ => l.length - (intOf i).toNat)
  case atStart => exact ⟨0, [], by omega, rfl, ⟨rfl, HF.out, OwnR.nil _ _, fun g hg => by cases hg⟩⟩
  case round =>
    obtain ⟨k, L, hk, rfl, HW⟩ := hrel
    obtain ⟨ua, un, uc, hu3⟩ := own_sl HW.out.2.2.1
    subst hu3
    by_cases hlt : k < l.length
    · obtain ⟨b, off, hsa, hse⟩ : ∃ b off, ao = some ⟨b, off, none⟩ ∧ ∀ i, i < l.length → FlAt wr b (off + i * 2) (l.getD i Fl.zero) := by
        rcases (HIN.out.below HW.out.2.1 (Nat.le_of_eq hB)) with h | h
        · rw [h] at hlt; simp at hlt
        · exact h
      subst hsa
      have hs := hse k hlt
      have hgd : l.getD k Fl.zero = l[k] := by simp [hlt]
      rw [hgd] at hs
      have HOW : Hid _ := ⟨kown_any l[k] wr (HFB.out _ (List.getElem_mem hlt)) hs.ins ((HRD.out _ (List.getElem_mem hlt)).below HW.out.2.1 (Nat.le_of_eq hB))⟩
      have HTK : Hid ((l.take (k + 1)).map Fl.kf = (l.take k).map Fl.kf ++ [l[k].kf]) := ⟨by rw [List.take_succ_eq_append_getElem hlt, List.map_append]; rfl⟩
      have HLL : Hid (L.length ≤ 1048577) := ⟨by have := congrArg List.length HW.out.1; simp at this; omega⟩
      generalize l[k] = x at *
      have c0 := hs.c0
      have c1 := hs.c1
      clear hs hse hgd
      go_upto_region 4 with (first
        | (go_at_call 16; refine HOW.out.mono ?_; rintro e w2 ⟨g, rfl, hlk, hgo, hb2⟩; have HB2 : Hid _ := ⟨hb2⟩; have HG2 : Hid (LikeF x g ∧ GO w2 g) := ⟨hlk, hgo⟩; clear hlk hgo hb2; have HO2 : Hid (OwnR 41 2 encFo w2 B (.slice ua un uc) L) := ⟨own_bel HW.out.2.2.1 HB2.out⟩; have HBB : Hid (B ≤ w2.heap.size) := ⟨by have := HB2.out.size; have := HW.out.2.1.size; omega⟩)
        | (at_builtin; refine append_R rfl _ _ 22 (.agg (encFo Fl.zero).toArray) 48 rfl Try.underlying22 infoFo (by kernel_rfl) (by decide) encFo_len encFo_one rfl HO2.out g rfl (by simp) rfl (by have := HLL.out; unfold maxLen; omega) (by have := HLL.out; omega) HBB.out ?_; intro rv w3 hr3 hs3; obtain ⟨xa, xn, xc, hxv⟩ := own_sl hr3; subst hxv; have HR3 : Hid _ := ⟨hr3⟩; have HS3 : Hid (Step w2 w3 (.slice ua un uc) (.slice xa xn xc)) := ⟨hs3⟩; clear hr3 hs3; go_frame))
      have HN : Hid ((L ++ [g]).map Fl.kf = (l.take (k + 1)).map Fl.kf ∧ Below B w w3 ∧ OwnR 41 2 encFo w3 B (.slice xa xn xc) (L ++ [g]) ∧ ∀ z ∈ L ++ [g], GO w3 z) := ⟨by
        rw [HTK.out, List.map_append, HW.out.1]
        have e : g.kf = x.kf := by unfold Fl.kf; rw [HG2.out.1.se, HG2.out.1.sy]
        simp [e], step_bel (bt2 hB HW.out.2.1 HB2.out) HO2.out (Nat.le_refl _) HS3.out HBB.out, HR3.out, fun z hz => by
        rcases List.mem_append.1 hz with hz | hz
        · exact ((HW.out.2.2.2 z hz).bel HB2.out).step HO2.out HS3.out
        · simp at hz; subst hz; exact HG2.out.2.step HO2.out HS3.out⟩
      clear HW HOW HTK HLL c0 c1 HB2 HG2 HO2 HBB HR3 HS3
      go_wp2_with fail
      go_roundw
      case rel => first | exact ⟨k + 1, _, hlt, by go_num, HN⟩ | (trace_state; fail "x")
      case measure => simp [intOf]; omega
    · obtain rfl : k = l.length := by omega
      rw [List.take_of_length_le (Nat.le_refl _)] at HW
      have hun : un = L.length := own_n HW.out.2.2.1 rfl
      subst hun
      have HFIN : Hid (L.map Fl.kf = l.map Fl.kf ∧ OwnR 41 2 encFo wr w.heap.size (.slice ua L.length uc) L ∧ (∀ f ∈ L, GO wr f) ∧ Below w.heap.size w wr) := ⟨HW.out.1, by rw [hB]; exact HW.out.2.2.1, HW.out.2.2.2, by rw [hB]; exact HW.out.2.1⟩
      clear HW
      go_wp2_with fail
      exact bodyPost_ret (v := .slice ua L.length uc) (by kernel_rfl) rfl ⟨L, ua, uc, rfl, HFIN.out⟩
theorem own_any (ao : Option Addr) (c : Nat) (l : List Fl) (w : World) (hn : l.length ≤ 1048577) (hb : ∀ f ∈ l, FlB f) (hin : Fls w ao l) (hrd : ∀ f ∈ l, RdF w f) :
    Calls Try.prog 7 #[.slice ao l.length c] w fun e w' => ∃ (L : List Fl) (va : Option Addr) (vc : Nat), e = .returned (.slice va L.length vc) ∧ L.map Fl.kf = l.map Fl.kf ∧ Fls w' va L ∧ Below w.heap.size w w' := by
  refine (own_anyR ao c l w hn hb hin hrd).mono ?_
  rintro e w' ⟨L, va, vc, rfl, h1, h2, h3, h4⟩
  exact ⟨L, va, vc, rfl, h1, own_flsO h2 (fun f hf => (h3 f hf).fl), h4⟩
end Go.Proofs.Ytojiomkinhnodaa
