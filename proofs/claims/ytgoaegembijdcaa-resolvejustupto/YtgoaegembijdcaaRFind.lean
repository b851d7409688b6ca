/- Find. -/
import Derived.Test.YtgoaegembijdcaaRIdx
import Derived.Test.YtgoaegembijdcaaRUse
import Derived.Laws.ResultCell
namespace Go.Proofs.Ytgoaegembijdcaa
open Go.ChangeShapes Go.WideShapes Go.ChangeAt Go.RowKit Go.Maps
set_option linter.unusedVariables false
set_option linter.unusedSimpArgs false

def findO (t : List En) (n : ByteArray) : Option En := t.find? (fun x => nmB x.nm n)
def findX (t : List En) (n : ByteArray) : En := (findO t n).getD En.zero
theorem idx_find {α : Type} (p : α → Bool) (l : List α) : (l.find? p = none ∧ idxP p l = -1) ∨ ∃ (k : Nat) (hk : k < l.length), l.find? p = some l[k] ∧ idxP p l = (k : Int) := by
  unfold idxP
  cases h : l.findIdx? p with
  | none =>
    rw [List.findIdx?_eq_none_iff] at h
    exact .inl ⟨List.find?_eq_none.2 (fun x hx => by rw [h x hx]; simp), rfl⟩
  | some i =>
    obtain ⟨hi, hp, hlt⟩ := List.findIdx?_eq_some_iff_getElem.1 h
    refine .inr ⟨i, hi, ?_, rfl⟩
    rw [List.find?_eq_some_iff_getElem]
    exact ⟨hp, i, hi, rfl, fun j hj => by have := hlt j hj; simpa using this⟩
theorem sizeEn : (Try.prog.info? 27).map (·.size) = some 5 := by kernel_rfl
theorem res_find {fn : Func} {q u : Tmp} (h : fn.results = #[.cell q 27, .tmp u]) (tmps : Array Value) (w : World) (g : Nat) (x0 x1 x2 x3 x4 v : Value) (hp : tmps.getD q undef = .pointer (some ⟨g, 0, none⟩)) (hg : w.heap[g]? = some (.cells #[x0, x1, x2, x3, x4] 27 (0, 0))) (hu : tmps.getD u undef = v) :
    (results fn tmps).run Try.prog w = .ok (.tuple #[.agg #[x0, x1, x2, x3, x4], v]) w := by
  rw [results_cell_tmp h, hp, hu]
  have hl := run_loadVar_row (P := Try.prog) w g 27 27 #[x0, x1, x2, x3, x4] (0, 0) _ hg Try.underlying27 rfl (by rw [sizeEn]; rfl)
  simp [asAddr, hl, Result.andThen]

set_option maxHeartbeats 4000000 in
set_option maxRecDepth 20000 in
theorem pfind_any (ao : Option Addr) (c : Nat) (t : List En) (n : ByteArray) (w : World) (hl : t.length ≤ 2097152) (hr : Ents w ao t) :
    Calls Try.prog 7 #[.slice ao t.length c, .string n] w fun e w' => e = .returned (.tuple #[(findX t n).val, .bool (findO t n).isSome]) ∧ Below w.heap.size w w' := by
  obtain ⟨B, hB⟩ : ∃ B, w.heap.size = B := ⟨_, rfl⟩
  have hz : ((w.alloc (.cells #[.string n] 9)).alloc (.cells #[.string ⟨#[]⟩, .int .i64 0, .int .i64 0, .int .i64 0, .int .i64 0] 27)).heap.size = B + 2 := by simp [hB]
  have K0 : Bk (w.alloc (.cells #[.string n] 9)) B 9 #[.string n] := by rw [← hB]; exact Bk.new _ _ _
  have K1 : Bk ((w.alloc (.cells #[.string n] 9)).alloc (.cells #[.string ⟨#[]⟩, .int .i64 0, .int .i64 0, .int .i64 0, .int .i64 0] 27)) (B + 1) 27 #[.string ⟨#[]⟩, .int .i64 0, .int .i64 0, .int .i64 0, .int .i64 0] := by rw [← hB]; exact ⟨al2 w _ _⟩
  have HK0 : Hid _ := ⟨K0.alloc (.cells #[.string ⟨#[]⟩, .int .i64 0, .int .i64 0, .int .i64 0, .int .i64 0] 27)⟩
  have HK1 : Hid _ := ⟨K1⟩
  have HF : Hid _ := ⟨bl2 w (.cells #[.string n] 9) (.cells #[.string ⟨#[]⟩, .int .i64 0, .int .i64 0, .int .i64 0, .int .i64 0] 27)⟩
  have HE : Hid (∀ W, Below w.heap.size w W → Ents W ao t) := ⟨fun W h => hr.below h (Nat.le_refl _)⟩
  clear K0 K1 hr
  obtain ⟨XX, hXX⟩ : ∃ x, findX t n = x := ⟨_, rfl⟩
  obtain ⟨YY, hYY⟩ : ∃ x, (findO t n).isSome = x := ⟨_, rfl⟩
  rw [hXX, hYY]
  have HXX : Hid _ := ⟨hXX⟩
  have HYY : Hid _ := ⟨hYY⟩
  clear hXX hYY
  go_enter Try.func7, Try.ntmps7
  go_upto_region 1 with (fail)
  generalize (w.alloc (.cells #[.string n] 9)).alloc (.cells #[.string ⟨#[]⟩, .int .i64 0, .int .i64 0, .int .i64 0, .int .i64 0] 27) = w0 at *
  have HI : Hid (Calls Try.prog 21 #[.slice ao t.length c, .func (.func 22) #[] #[.pointer (some ⟨B, 0, none⟩)]] w0 fun e w' => e = .returned (.int .i64 (idxP (fun x => nmB x.nm n) t)) ∧ Below w0.heap.size w0 w') := ⟨ixE_any 22 (fun x => nmB x.nm n) #[.pointer (some ⟨B, 0, none⟩)] ao c t w0 (by omega) (HE.out _ HF.out) enE (fun s W hW => clE_any s n B W ((HK0.out.bel hW HK0.out.lt).cell 0 rfl))⟩
  have HU : Hid _ := ⟨idx_find (fun x => nmB x.nm n) t⟩
  generalize hix : idxP (fun x => nmB x.nm n) t = X at *
  clear hix
  go_upto_region 2 with (go_at_call 21; (with_reducible refine HI.out.mono ?_); rintro e w1 ⟨rfl, hb1⟩)
  have HK2 : Hid _ := ⟨HK1.out.bel hb1 HK1.out.lt⟩
  have HF1 : Hid (Below w.heap.size w w1) := ⟨HF.out.trans (hb1.mono HF.out.size)⟩
  have k0 : w1.cell? ⟨B + 1, 0, none⟩ = some (.string ⟨#[]⟩) := HK2.out.cell 0 rfl
  have k1 : w1.cell? ⟨B + 1, 1, none⟩ = some (.int .i64 0) := HK2.out.cell 1 rfl
  have k2 : w1.cell? ⟨B + 1, 2, none⟩ = some (.int .i64 0) := HK2.out.cell 2 rfl
  have k3 : w1.cell? ⟨B + 1, 3, none⟩ = some (.int .i64 0) := HK2.out.cell 3 rfl
  have k4 : w1.cell? ⟨B + 1, 4, none⟩ = some (.int .i64 0) := HK2.out.cell 4 rfl
  have f0 := HK2.out.fro 0
  have f1 := HK2.out.fro 1
  have f2 := HK2.out.fro 2
  have f3 := HK2.out.fro 3
  have f4 := HK2.out.fro 4
  have hbB : ∀ j, w.heap.size ≤ (⟨B + 1, j, none⟩ : Addr).block := fun j => by show w.heap.size ≤ B + 1; omega
  clear hb1 HI
  rcases HU.out with ⟨h1, h2⟩ | ⟨k, hk, h1, h2⟩
  · subst h2
    obtain rfl : XX = En.zero := by rw [← HXX.out]; unfold findX findO; rw [h1]; rfl
    obtain rfl : YY = false := by rw [← HYY.out]; unfold findO; rw [h1]; rfl
    go_wp2
    have KE := ((((HK2.out.setC 0 (.string ⟨#[]⟩)).setC 1 (.int .i64 0)).setC 2 (.int .i64 0)).setC 3 (.int .i64 0)).setC 4 (.int .i64 0)
    have FE := bel_setC (bel_setC (bel_setC (bel_setC (bel_setC HF1.out ⟨B + 1, 0, none⟩ (hbB 0) (.string ⟨#[]⟩)) ⟨B + 1, 1, none⟩ (hbB 1) (.int .i64 0)) ⟨B + 1, 2, none⟩ (hbB 2) (.int .i64 0)) ⟨B + 1, 3, none⟩ (hbB 3) (.int .i64 0)) ⟨B + 1, 4, none⟩ (hbB 4) (.int .i64 0)
    refine bodyPost_ret (res_find (q := 4) (u := 5) (by kernel_rfl) _ _ (B + 1) _ _ _ _ _ _ (by kernel_rfl) (show _ = _ from KE.hp) rfl) rfl ?_
    exact ⟨rfl, by first | exact FE | (rw [hB] at FE; exact FE)⟩
  · subst h2
    have hX : XX = t[k] := by rw [← HXX.out]; unfold findX findO; rw [h1]; rfl
    obtain rfl : YY = true := by rw [← HYY.out]; unfold findO; rw [h1]; rfl
    obtain ⟨b, off, rfl, hcell⟩ : ∃ b off, ao = some ⟨b, off, none⟩ ∧ ∀ i, i < t.length → EntAt w1 b (off + i * 5) (t.getD i En.zero) := by
      rcases HE.out _ HF1.out with h | h
      · subst h; simp at hk
      · exact h
    obtain ⟨c0, c1, c2, c3, c4⟩ := hcell k hk
    have hget : t.getD k En.zero = t[k] := by simp [hk]
    rw [hget, ← hX] at c0 c1 c2 c3 c4
    clear hcell hget hX h1 HXX HYY HU
    obtain ⟨nm, o1, o2, o3, o4⟩ := XX
    dsimp only [En.val] at *
    go_wp2
    have KE := ((((HK2.out.setC 0 (.string nm)).setC 1 (.int .i64 o1)).setC 2 (.int .i64 o2)).setC 3 (.int .i64 o3)).setC 4 (.int .i64 o4)
    have FE := bel_setC (bel_setC (bel_setC (bel_setC (bel_setC HF1.out ⟨B + 1, 0, none⟩ (hbB 0) (.string nm)) ⟨B + 1, 1, none⟩ (hbB 1) (.int .i64 o1)) ⟨B + 1, 2, none⟩ (hbB 2) (.int .i64 o2)) ⟨B + 1, 3, none⟩ (hbB 3) (.int .i64 o3)) ⟨B + 1, 4, none⟩ (hbB 4) (.int .i64 o4)
    refine bodyPost_ret (res_find (q := 4) (u := 5) (by kernel_rfl) _ _ (B + 1) _ _ _ _ _ _ (by kernel_rfl) (show _ = _ from KE.hp) rfl) rfl ?_
    exact ⟨rfl, by first | exact FE | (rw [hB] at FE; exact FE)⟩
end Go.Proofs.Ytgoaegembijdcaa
