/- The law's turned; what Check lets by. -/
import Derived.Test.YtgoaegembijdcaaRSpec3
namespace Go.Proofs.Ytgoaegembijdcaa
open Go.ChangeShapes Go.WideShapes Go.ChangeAt Go.RowKit Go.Maps
set_option linter.unusedVariables false
set_option linter.unusedSimpArgs false

def encFl (f : Fl) : List Value := [.slice f.sa f.secs.length f.sc, .slice f.ya f.syms.length f.yc]
theorem encFl_len (r : Fl) : (encFl r).length = 2 := rfl
theorem encFl_one (r : Fl) : ∀ v ∈ encFl r, v.oneCell' = true := List.all_eq_true.1 rfl
theorem infoFl : (Try.prog.info? 52).map (fun i => (i.zero, i.size, i.bytes)) = some (some (.agg (encFl Fl.zero).toArray), 2, 48) := by kernel_rfl
/-- Objects of the call's own row. -/
theorem own_fls {w : World} {base : Nat} {ao : Option Addr} {cap : Nat} {l : List Fl} (h : OwnR 52 2 encFl w base (.slice ao l.length cap) l) (hin : ∀ f ∈ l, FlIn w f) : Fls w ao l := by
  obtain ⟨ao', cap', hv, _, _, _, hc⟩ := h.any encFl_len
  injection hv with h1 h2 h3
  subst h1
  rcases hc with hc | ⟨g, hg, _, _, hc⟩
  · exact .inl hc
  · refine .inr ⟨g, 0, hg, fun i hi => ?_⟩
    have h := hc i hi
    have e : l.getD i Fl.zero = l[i] := by simp [hi]
    rw [e, Nat.zero_add]
    exact ⟨h 0 (by decide), h 1 (by decide), hin _ (List.getElem_mem hi)⟩
theorem fls_in {w : World} {ao : Option Addr} {l : List Fl} (h : Fls w ao l) : ∀ f ∈ l, FlIn w f := by
  intro f hf
  obtain ⟨i, hi, rfl⟩ := List.getElem_of_mem hf
  rcases h with h | ⟨b, off, _, h⟩
  · subst h; simp at hi
  · have h2 := (h i hi).ins
    have e : l.getD i Fl.zero = l[i] := by simp [hi]
    rwa [e] at h2
theorem FlsC.rev {l : List Fl} (h : FlsC l) : FlsC l.reverse := ⟨by have := h.n; simpa using this, fun f hf => h.each f (by simpa using hf), by have := h.sum; rw [List.map_reverse, List.sum_reverse]; exact this⟩
theorem checkE_bind {l : List Sym} {ss : List ByteArray} (h : checkE l ss = 0) : ∀ s ∈ l, s.b = 0 ∨ s.b = 1 ∨ s.b = 2 := by
  intro s hs
  unfold checkE at h
  split at h
  · omega
  · split at h
    · omega
    · rename_i m hm
      split at h
      · rename_i hmay
        unfold mayB at hmay
        simp only [Bool.and_eq_true] at hmay
        have := List.all_eq_true.1 hmay.1 s hs
        simp only [Bool.and_eq_true] at this
        have hr := this.2
        unfold rightB at hr
        split at hr
        · cases hr
        · rename_i hc
          simp only [Bool.or_eq_true, not_or, Bool.not_eq_true] at hc
          have hb : bindB s.b = true := by simpa using hc.2.1
          unfold bindB at hb
          simpa using hb
      · omega
theorem errF_zero {f : Fl} (h : errF f = 0) : checkE f.syms (f.secs.map (·.nm)) = 0 := by
  unfold errF at h
  by_cases e : checkE f.syms (f.secs.map (·.nm)) = 0
  · exact e
  · rw [if_pos (by simp [e])] at h
    exact h
theorem checkL_each {l : List Fl} (h : checkL l = 0) : ∀ f ∈ l, errF f = 0 := by
  unfold checkL at h
  split at h
  · omega
  · exact (errL_zero l).1 h
theorem bind_ok {l : List Fl} (h : checkL l = 0) : BindOk l := by
  intro x hx
  obtain ⟨f, h1, h2⟩ := mem_occ.1 hx
  exact checkE_bind (errF_zero (checkL_each h f (List.mem_of_getElem? h1))) x.s (List.mem_of_getElem? h2)

set_option maxHeartbeats 4000000 in
set_option maxRecDepth 20000 in
theorem turned_any (ao : Option Addr) (c : Nat) (l : List Fl) (w : World) (hl : l.length ≤ 1048577) (hr : Fls w ao l) :
    Calls Try.prog 14 #[.slice ao l.length c] w fun e w' => ∃ va vc, e = .returned (.slice va l.length vc) ∧ Fls w' va l.reverse ∧ Below w.heap.size w w' := by
  have HR : Hid _ := ⟨hr⟩
  have HF : Hid (Below w.heap.size w w) := ⟨Below.refl _ _⟩
  have e0 : wrap64 ((l.length : Int) - 1) = (l.length : Int) - 1 := by unfold wrap64; omega
  clear hr
  go_enter Try.func14, Try.ntmps14
  go_upto_region 3 with (fail)
  go_loopw [3, 4] (fun v i wr => ∃ k : Nat, k ≤ l.length ∧ i = .int .i64 ((l.length : Int) - 1 - k) ∧ Hid (OwnR 52 2 encFl wr w.heap.size v (l.reverse.take k) ∧ Below w.heap.size w wr)) (fun _ i _ => (intOf i + 1).toNat)
  case atStart => exact ⟨0, by omega, by simp, ⟨OwnR.nil _ _, HF.out⟩⟩
  case round =>
    obtain ⟨k, hk, rfl, HW⟩ := hrel
    have hbs := HW.out.2.size
    by_cases hlt : k < l.length
    · obtain ⟨j, hj⟩ : ∃ j : Nat, (l.length : Int) - 1 - k = (j : Int) := ⟨l.length - 1 - k, by omega⟩
      have hjl : j < l.length := by omega
      obtain ⟨b, off, rfl, hcell⟩ : ∃ b off, ao = some ⟨b, off, none⟩ ∧ ∀ i, i < l.length → FlAt wr b (off + i * 2) (l.getD i Fl.zero) := by
        rcases HR.out.below HW.out.2 (Nat.le_refl _) with h | h
        · subst h; simp at hlt
        · exact h
      obtain ⟨c0, c1, _⟩ := hcell j hjl
      have hget : l.getD j Fl.zero = l[j] := by simp [hjl]
      have HT : Hid (l.reverse.take (k + 1) = l.reverse.take k ++ [l.getD j Fl.zero]) := ⟨by
        have h1 : k < l.reverse.length := by simpa using hlt
        rw [List.take_succ_eq_append_getElem h1, hget]
        congr 2
        rw [List.getElem_reverse]
        congr 1
        omega⟩
      have htl : (l.reverse.take k).length = k := by simp; omega
      clear hcell hget
      generalize l.getD j Fl.zero = f at *
      obtain ⟨sa, sc, secs, ya, yc, syms⟩ := f
      dsimp only at c0 c1
      rw [hj]
      have e1 : wrap64 ((j : Int) - 1) = (j : Int) - 1 := by unfold wrap64; omega
      go_wp2_with (at_builtin; refine append_R rfl _ _ 22 (.agg (encFl Fl.zero).toArray) 48 rfl Try.underlying22 infoFl (by kernel_rfl) (by decide) encFl_len encFl_one rfl HW.out.1 ⟨sa, sc, secs, ya, yc, syms⟩ rfl (by simp) rfl (by unfold maxLen; omega) (by omega) hbs ?_; intro v1 w5 hr5 hs5; go_frame)
      go_roundw
      case rel => exact ⟨k + 1, hlt, by first | go_num | (congr 1; omega), ⟨by rw [HT.out]; exact hr5, HW.out.2.trans (hs5.below HW.out.1 hbs)⟩⟩
      case measure => simp [intOf]
    · obtain rfl : k = l.length := by omega
      have hx : (l.length : Int) - 1 - (l.length : Int) = -1 := by omega
      rw [hx]
      have ht : l.reverse.take l.length = l.reverse := by rw [List.take_of_length_le (by simp)]
      rw [ht] at HW
      obtain ⟨va, vc, hv, _, _, _, _⟩ := HW.out.1.any encFl_len
      subst hv
      rw [List.length_reverse] at *
      go_wp2
      go_ret
      refine ⟨va, vc, rfl, ?_, HW.out.2⟩
      refine own_fls (by rw [List.length_reverse]; exact HW.out.1) fun f hf => ?_
      exact (fls_in HR.out f (by simpa using hf)).below HW.out.2 (Nat.le_refl _)
end Go.Proofs.Ytgoaegembijdcaa
