/- The document's Find and Look. -/
import Derived.Test.YtgoaegembijdcaaRLook
namespace Go.Proofs.Ytgoaegembijdcaa
open Go.ChangeShapes Go.WideShapes Go.ChangeAt Go.RowKit Go.Maps
set_option linter.unusedVariables false
set_option linter.unusedSimpArgs false

theorem sizeRE : (Try.prog.info? 26).map (·.size) = some 5 := by kernel_rfl
theorem res_rfind {fn : Func} {q u : Tmp} (h : fn.results = #[.cell q 26, .tmp u]) (tmps : Array Value) (w : World) (g : Nat) (x0 x1 x2 x3 x4 v : Value) (hp : tmps.getD q undef = .pointer (some ⟨g, 0, none⟩)) (hg : w.heap[g]? = some (.cells #[x0, x1, x2, x3, x4] 26 (0, 0))) (hu : tmps.getD u undef = v) :
    (results fn tmps).run Try.prog w = .ok (.tuple #[.agg #[x0, x1, x2, x3, x4], v]) w := by
  rw [results_cell_tmp h, hp, hu]
  have hl := run_loadVar_row (P := Try.prog) w g 26 26 #[x0, x1, x2, x3, x4] (0, 0) _ hg Try.underlying26 rfl (by rw [sizeRE]; rfl)
  simp [asAddr, hl, Result.andThen]
theorem find_stop (t : List En) (n : ByteArray) (k : Nat) (hk : k < t.length) (h : (t.take k).all (fun x => !nmB x.nm n) = true) (hp : nmB t[k].nm n = true) : findX t n = t[k] ∧ (findO t n).isSome = true := by
  have e : findO t n = some t[k] := by
    unfold findO
    rw [List.find?_eq_some_iff_getElem]
    refine ⟨hp, k, hk, rfl, fun j hj => ?_⟩
    have := List.all_eq_true.1 h ((t.take k)[j]'(by simp; omega)) (List.getElem_mem _)
    simpa using this
  exact ⟨by unfold findX; rw [e]; rfl, by rw [e]; rfl⟩
theorem find_no (t : List En) (n : ByteArray) (h : t.all (fun x => !nmB x.nm n) = true) : findX t n = En.zero ∧ (findO t n).isSome = false := by
  have e : findO t n = none := List.find?_eq_none.2 (fun x hx => by have := List.all_eq_true.1 h x hx; simpa using this)
  exact ⟨by unfold findX; rw [e]; rfl, by rw [e]; rfl⟩

set_option maxHeartbeats 4000000 in
set_option maxRecDepth 20000 in
theorem rfind_any (ao : Option Addr) (c : Nat) (t : List En) (n : ByteArray) (w : World) (hl : t.length ≤ 2097152) (hr : Ents w ao t) :
    Calls Try.prog 8 #[.slice ao t.length c, .string n] w fun e w' => e = .returned (.tuple #[(findX t n).val, .bool (findO t n).isSome]) ∧ Below w.heap.size w w' := by
  obtain ⟨B, hB⟩ : ∃ B, w.heap.size = B := ⟨_, rfl⟩
  have K1 : Bk (w.alloc (.cells #[.string ⟨#[]⟩, .int .i64 0, .int .i64 0, .int .i64 0, .int .i64 0] 26)) B 26 #[.string ⟨#[]⟩, .int .i64 0, .int .i64 0, .int .i64 0, .int .i64 0] := by rw [← hB]; exact Bk.new _ _ _
  have HK1 : Hid _ := ⟨K1⟩
  have HF : Hid (Below B w (w.alloc (.cells #[.string ⟨#[]⟩, .int .i64 0, .int .i64 0, .int .i64 0, .int .i64 0] 26))) := ⟨by rw [← hB]; exact (Below.refl _ _).alloc (Nat.le_refl _) _⟩
  have HE : Hid _ := ⟨hr.below HF.out (by omega)⟩
  have HST : Hid (∀ k (hk : k < t.length), (t.take k).all (fun x => !nmB x.nm n) = true → nmB t[k].nm n = true → findX t n = t[k] ∧ (findO t n).isSome = true) := ⟨fun k hk h hp => find_stop t n k hk h hp⟩
  have HNO : Hid (t.all (fun x => !nmB x.nm n) = true → findX t n = En.zero ∧ (findO t n).isSome = false) := ⟨find_no t n⟩
  generalize findX t n = XX at *
  generalize (findO t n).isSome = YY at *
  clear K1 hr
  go_enter Try.func8, Try.ntmps8
  go_upto_region 1 with (fail)
  generalize w.alloc (.cells #[.string ⟨#[]⟩, .int .i64 0, .int .i64 0, .int .i64 0, .int .i64 0] 26) = w0 at *
  have k0 : w0.cell? ⟨B, 0, none⟩ = some (.string ⟨#[]⟩) := HK1.out.cell 0 rfl
  have k1 : w0.cell? ⟨B, 1, none⟩ = some (.int .i64 0) := HK1.out.cell 1 rfl
  have k2 : w0.cell? ⟨B, 2, none⟩ = some (.int .i64 0) := HK1.out.cell 2 rfl
  have k3 : w0.cell? ⟨B, 3, none⟩ = some (.int .i64 0) := HK1.out.cell 3 rfl
  have k4 : w0.cell? ⟨B, 4, none⟩ = some (.int .i64 0) := HK1.out.cell 4 rfl
  have f0 := HK1.out.fro 0
  have f1 := HK1.out.fro 1
  have f2 := HK1.out.fro 2
  have f3 := HK1.out.fro 3
  have f4 := HK1.out.fro 4
  go_upto_region 2 with (fail)
  go_loop [6] (fun i => ∃ k : Nat, k ≤ t.length ∧ i = .int .i64 k ∧ Hid ((t.take k).all (fun x => !nmB x.nm n) = true)) (fun i => t.length - (intOf i).toNat)
  case atStart => exact ⟨0, by omega, rfl, ⟨by simp⟩⟩
  case round =>
    obtain ⟨k, hk, rfl, HA⟩ := hrel
    by_cases hlt : k < t.length
    · obtain ⟨b, off, rfl, hcell⟩ : ∃ b off, ao = some ⟨b, off, none⟩ ∧ ∀ i, i < t.length → EntAt w0 b (off + i * 5) (t.getD i En.zero) := by
        rcases HE.out with h | h
        · subst h; simp at hlt
        · exact h
      obtain ⟨c0, c1, c2, c3, c4⟩ := hcell k hlt
      have hget : t.getD k En.zero = t[k] := by simp [hlt]
      rw [hget] at c0 c1 c2 c3 c4
      have HS : Hid _ := ⟨HST.out k hlt HA.out⟩
      have HT : Hid (nmB t[k].nm n = false → (t.take (k + 1)).all (fun x => !nmB x.nm n) = true) := ⟨fun h => by rw [all_take_succ _ _ _ hlt, HA.out, h]; rfl⟩
      obtain ⟨x, hx⟩ : ∃ x, x = t[k] := ⟨_, rfl⟩
      rw [← hx] at c0 c1 c2 c3 c4 HS HT
      clear hcell hget hx
      obtain ⟨q, hq⟩ : ∃ q, nmB x.nm n = q := ⟨_, rfl⟩
      have hq2 : (x.nm.toList == n.toList) = q := by rw [nm_tl, hq]
      rw [hq] at HS HT
      clear hq
      obtain ⟨nm, o1, o2, o3, o4⟩ := x
      dsimp only at *
      cases q
      · have hT := HT.out rfl
        go_wp2
        go_round
        case rel => exact ⟨k + 1, hlt, by go_num, ⟨hT⟩⟩
        case measure => simp [intOf]; omega
      · obtain ⟨rfl, rfl⟩ := HS.out rfl
        go_wp2
        have KE := ((((HK1.out.setC 0 (.string nm)).setC 1 (.int .i64 o1)).setC 2 (.int .i64 o2)).setC 3 (.int .i64 o3)).setC 4 (.int .i64 o4)
        have FE := bel_setC (bel_setC (bel_setC (bel_setC (bel_setC HF.out ⟨B, 0, none⟩ (Nat.le_refl _) (.string nm)) ⟨B, 1, none⟩ (Nat.le_refl _) (.int .i64 o1)) ⟨B, 2, none⟩ (Nat.le_refl _) (.int .i64 o2)) ⟨B, 3, none⟩ (Nat.le_refl _) (.int .i64 o3)) ⟨B, 4, none⟩ (Nat.le_refl _) (.int .i64 o4)
        refine bodyPost_ret (res_rfind (q := 4) (u := 5) (by kernel_rfl) _ _ B _ _ _ _ _ _ (by kernel_rfl) (show _ = _ from KE.hp) rfl) rfl ?_
        exact ⟨rfl, by first | exact FE | (rw [hB]; exact FE)⟩
    · obtain rfl : k = t.length := by omega
      obtain ⟨rfl, rfl⟩ := HNO.out (by have := HA.out; rwa [List.take_of_length_le (Nat.le_refl _)] at this)
      go_wp2
      have KE := ((((HK1.out.setC 0 (.string ⟨#[]⟩)).setC 1 (.int .i64 0)).setC 2 (.int .i64 0)).setC 3 (.int .i64 0)).setC 4 (.int .i64 0)
      have FE := bel_setC (bel_setC (bel_setC (bel_setC (bel_setC HF.out ⟨B, 0, none⟩ (Nat.le_refl _) (.string ⟨#[]⟩)) ⟨B, 1, none⟩ (Nat.le_refl _) (.int .i64 0)) ⟨B, 2, none⟩ (Nat.le_refl _) (.int .i64 0)) ⟨B, 3, none⟩ (Nat.le_refl _) (.int .i64 0)) ⟨B, 4, none⟩ (Nat.le_refl _) (.int .i64 0)
      refine bodyPost_ret (res_rfind (q := 4) (u := 5) (by kernel_rfl) _ _ B _ _ _ _ _ _ (by kernel_rfl) (show _ = _ from KE.hp) rfl) rfl ?_
      exact ⟨rfl, by first | exact FE | (rw [hB]; exact FE)⟩
end Go.Proofs.Ytgoaegembijdcaa
