/- The contract of Find. -/
import Derived.Test.YtdgejingoamfeaaDoorLike
import Derived.Deep.QuietTactic
import Derived.BigQuiet
namespace Go.Proofs.YtdgejingoamfeaaDoor
open Go.ChangeShapes Go.WideShapes Go.ChangeAt Go.RowKit Go.Maps
set_option linter.unusedVariables false
set_option linter.unusedSimpArgs false

/-- All forms, and their names. -/
def allL : List (Nat × Int × Int) := [(1, 1, 0), (1, 4, 0), (1, 8, 0), (2, 4, 0), (2, 8, 0), (3, 1, 0), (3, 4, 0), (3, 8, 0), (4, 1, 0), (4, 4, 0), (4, 8, 0), (5, 1, 0), (5, 4, 0), (5, 8, 0), (6, 1, 0), (6, 4, 0), (6, 8, 0), (7, 1, 0), (7, 4, 0), (7, 8, 0), (8, 1, 0), (8, 4, 0), (8, 8, 0), (9, 1, 0), (9, 4, 0), (9, 8, 0), (10, 1, 0), (10, 4, 0), (10, 8, 0), (11, 1, 0), (11, 4, 0), (11, 8, 0), (12, 4, 0), (12, 8, 0), (13, 1, 0), (13, 4, 0), (13, 8, 0), (14, 1, 0), (14, 4, 0), (14, 8, 0), (15, 1, 0), (15, 4, 0), (15, 8, 0), (16, 1, 0), (16, 4, 0), (16, 8, 0), (17, 1, 0), (17, 4, 0), (17, 8, 0), (18, 1, 0), (18, 4, 0), (18, 8, 0), (19, 1, 0), (19, 4, 0), (19, 8, 0), (20, 8, 0), (21, 8, 0), (22, 8, 0), (23, 8, 0), (24, 8, 0), (24, 8, 1), (24, 8, 2), (24, 8, 3), (24, 8, 4), (24, 8, 5), (24, 8, 6), (24, 8, 7), (24, 8, 8), (24, 8, 9), (24, 8, 10), (24, 8, 11), (24, 8, 12), (24, 8, 13), (24, 8, 14), (24, 8, 15), (25, 0, 0), (26, 0, 0), (27, 1, 0), (27, 1, 1), (27, 1, 2), (27, 1, 3), (27, 1, 4), (27, 1, 5), (27, 1, 6), (27, 1, 7), (27, 1, 8), (27, 1, 9), (27, 1, 10), (27, 1, 11), (27, 1, 12), (27, 1, 13), (27, 1, 14), (27, 1, 15), (28, 4, 0), (28, 4, 1), (28, 4, 2), (28, 4, 3), (28, 4, 4), (28, 4, 5), (28, 4, 6), (28, 4, 7), (28, 4, 8), (28, 4, 9), (28, 4, 10), (28, 4, 11), (28, 4, 12), (28, 4, 13), (28, 4, 14), (28, 4, 15), (28, 8, 0), (28, 8, 1), (28, 8, 2), (28, 8, 3), (28, 8, 4), (28, 8, 5), (28, 8, 6), (28, 8, 7), (28, 8, 8), (28, 8, 9), (28, 8, 10), (28, 8, 11), (28, 8, 12), (28, 8, 13), (28, 8, 14), (28, 8, 15), (29, 4, 0), (29, 8, 0), (30, 4, 0), (30, 8, 0), (31, 4, 0), (31, 8, 0), (32, 0, 0), (33, 0, 0), (34, 0, 0), (35, 0, 0)]
def nameL : List ByteArray := [⟨#[109, 111, 118, 98]⟩, ⟨#[109, 111, 118, 108]⟩, ⟨#[109, 111, 118, 113]⟩, ⟨#[108, 101, 97, 108]⟩, ⟨#[108, 101, 97, 113]⟩, ⟨#[97, 100, 100, 98]⟩, ⟨#[97, 100, 100, 108]⟩, ⟨#[97, 100, 100, 113]⟩, ⟨#[111, 114, 98]⟩, ⟨#[111, 114, 108]⟩, ⟨#[111, 114, 113]⟩, ⟨#[97, 100, 99, 98]⟩, ⟨#[97, 100, 99, 108]⟩, ⟨#[97, 100, 99, 113]⟩, ⟨#[115, 98, 98, 98]⟩, ⟨#[115, 98, 98, 108]⟩, ⟨#[115, 98, 98, 113]⟩, ⟨#[97, 110, 100, 98]⟩, ⟨#[97, 110, 100, 108]⟩, ⟨#[97, 110, 100, 113]⟩, ⟨#[115, 117, 98, 98]⟩, ⟨#[115, 117, 98, 108]⟩, ⟨#[115, 117, 98, 113]⟩, ⟨#[120, 111, 114, 98]⟩, ⟨#[120, 111, 114, 108]⟩, ⟨#[120, 111, 114, 113]⟩, ⟨#[99, 109, 112, 98]⟩, ⟨#[99, 109, 112, 108]⟩, ⟨#[99, 109, 112, 113]⟩, ⟨#[116, 101, 115, 116, 98]⟩, ⟨#[116, 101, 115, 116, 108]⟩, ⟨#[116, 101, 115, 116, 113]⟩, ⟨#[105, 109, 117, 108, 108]⟩, ⟨#[105, 109, 117, 108, 113]⟩, ⟨#[110, 101, 103, 98]⟩, ⟨#[110, 101, 103, 108]⟩, ⟨#[110, 101, 103, 113]⟩, ⟨#[110, 111, 116, 98]⟩, ⟨#[110, 111, 116, 108]⟩, ⟨#[110, 111, 116, 113]⟩, ⟨#[105, 110, 99, 98]⟩, ⟨#[105, 110, 99, 108]⟩, ⟨#[105, 110, 99, 113]⟩, ⟨#[100, 101, 99, 98]⟩, ⟨#[100, 101, 99, 108]⟩, ⟨#[100, 101, 99, 113]⟩, ⟨#[115, 104, 108, 98]⟩, ⟨#[115, 104, 108, 108]⟩, ⟨#[115, 104, 108, 113]⟩, ⟨#[115, 104, 114, 98]⟩, ⟨#[115, 104, 114, 108]⟩, ⟨#[115, 104, 114, 113]⟩, ⟨#[115, 97, 114, 98]⟩, ⟨#[115, 97, 114, 108]⟩, ⟨#[115, 97, 114, 113]⟩, ⟨#[112, 117, 115, 104, 113]⟩, ⟨#[112, 111, 112, 113]⟩, ⟨#[99, 97, 108, 108]⟩, ⟨#[106, 109, 112]⟩, ⟨#[106, 111]⟩, ⟨#[106, 110, 111]⟩, ⟨#[106, 98]⟩, ⟨#[106, 97, 101]⟩, ⟨#[106, 101]⟩, ⟨#[106, 110, 101]⟩, ⟨#[106, 98, 101]⟩, ⟨#[106, 97]⟩, ⟨#[106, 115]⟩, ⟨#[106, 110, 115]⟩, ⟨#[106, 112]⟩, ⟨#[106, 110, 112]⟩, ⟨#[106, 108]⟩, ⟨#[106, 103, 101]⟩, ⟨#[106, 108, 101]⟩, ⟨#[106, 103]⟩, ⟨#[114, 101, 116]⟩, ⟨#[108, 101, 97, 118, 101]⟩, ⟨#[115, 101, 116, 111]⟩, ⟨#[115, 101, 116, 110, 111]⟩, ⟨#[115, 101, 116, 98]⟩, ⟨#[115, 101, 116, 97, 101]⟩, ⟨#[115, 101, 116, 101]⟩, ⟨#[115, 101, 116, 110, 101]⟩, ⟨#[115, 101, 116, 98, 101]⟩, ⟨#[115, 101, 116, 97]⟩, ⟨#[115, 101, 116, 115]⟩, ⟨#[115, 101, 116, 110, 115]⟩, ⟨#[115, 101, 116, 112]⟩, ⟨#[115, 101, 116, 110, 112]⟩, ⟨#[115, 101, 116, 108]⟩, ⟨#[115, 101, 116, 103, 101]⟩, ⟨#[115, 101, 116, 108, 101]⟩, ⟨#[115, 101, 116, 103]⟩, ⟨#[99, 109, 111, 118, 111, 108]⟩, ⟨#[99, 109, 111, 118, 110, 111, 108]⟩, ⟨#[99, 109, 111, 118, 98, 108]⟩, ⟨#[99, 109, 111, 118, 97, 101, 108]⟩, ⟨#[99, 109, 111, 118, 101, 108]⟩, ⟨#[99, 109, 111, 118, 110, 101, 108]⟩, ⟨#[99, 109, 111, 118, 98, 101, 108]⟩, ⟨#[99, 109, 111, 118, 97, 108]⟩, ⟨#[99, 109, 111, 118, 115, 108]⟩, ⟨#[99, 109, 111, 118, 110, 115, 108]⟩, ⟨#[99, 109, 111, 118, 112, 108]⟩, ⟨#[99, 109, 111, 118, 110, 112, 108]⟩, ⟨#[99, 109, 111, 118, 108, 108]⟩, ⟨#[99, 109, 111, 118, 103, 101, 108]⟩, ⟨#[99, 109, 111, 118, 108, 101, 108]⟩, ⟨#[99, 109, 111, 118, 103, 108]⟩, ⟨#[99, 109, 111, 118, 111, 113]⟩, ⟨#[99, 109, 111, 118, 110, 111, 113]⟩, ⟨#[99, 109, 111, 118, 98, 113]⟩, ⟨#[99, 109, 111, 118, 97, 101, 113]⟩, ⟨#[99, 109, 111, 118, 101, 113]⟩, ⟨#[99, 109, 111, 118, 110, 101, 113]⟩, ⟨#[99, 109, 111, 118, 98, 101, 113]⟩, ⟨#[99, 109, 111, 118, 97, 113]⟩, ⟨#[99, 109, 111, 118, 115, 113]⟩, ⟨#[99, 109, 111, 118, 110, 115, 113]⟩, ⟨#[99, 109, 111, 118, 112, 113]⟩, ⟨#[99, 109, 111, 118, 110, 112, 113]⟩, ⟨#[99, 109, 111, 118, 108, 113]⟩, ⟨#[99, 109, 111, 118, 103, 101, 113]⟩, ⟨#[99, 109, 111, 118, 108, 101, 113]⟩, ⟨#[99, 109, 111, 118, 103, 113]⟩, ⟨#[109, 111, 118, 122, 98, 108]⟩, ⟨#[109, 111, 118, 122, 98, 113]⟩, ⟨#[109, 111, 118, 115, 98, 108]⟩, ⟨#[109, 111, 118, 115, 98, 113]⟩, ⟨#[120, 99, 104, 103, 108]⟩, ⟨#[120, 99, 104, 103, 113]⟩, ⟨#[99, 113, 116, 111]⟩, ⟨#[110, 111, 112]⟩, ⟨#[117, 100, 50]⟩, ⟨#[115, 121, 115, 99, 97, 108, 108]⟩]

theorem all_is : ∀ i : Fin 135, hbK (allL.getD i.val (0, 0, 0)).1 (allL.getD i.val (0, 0, 0)).2.1 (allL.getD i.val (0, 0, 0)).2.2 = true ∧ nameV (allL.getD i.val (0, 0, 0)).1 (allL.getD i.val (0, 0, 0)).2.1 (allL.getD i.val (0, 0, 0)).2.2 = nameL.getD i.val ⟨#[]⟩ ∧ preB (nameL.getD i.val ⟨#[]⟩) (stemK (allL.getD i.val (0, 0, 0)).1) = true := by decide +kernel
theorem all_at : ∀ i : Fin 135, nameL.findIdx? (fun x => decide (x = nameL.getD i.val ⟨#[]⟩)) = some i.val := by decide +kernel
theorem all_in : ∀ (k : Fin 36) (a : Fin 4) (c : Fin 16), hbK k.val (szV a.val) (c.val : Int) = true → ((k.val, szV a.val, (c.val : Int)) : Nat × Int × Int) ∈ allL := by decide +kernel
theorem all_len : allL.length = 135 := by decide +kernel
theorem name_len : nameL.length = 135 := by decide +kernel

/-- What Find answers. -/
def findV (t : ByteArray) : Int × Int × Int × Bool :=
  match nameL.findIdx? (fun x => decide (x = t)) with
  | some i => (((allL.getD i (0, 0, 0)).1 : Int), (allL.getD i (0, 0, 0)).2.1, (allL.getD i (0, 0, 0)).2.2, true)
  | none => (0, 0, 0, false)

theorem find_form {o : Nat} {s c : Int} (h : hbK o s c = true) : findV (nameV o s c) = ((o : Int), s, c, true) := by
  obtain ⟨ho, hc, hs⟩ := hbK_parts h
  have hm : ((o, s, c) : Nat × Int × Int) ∈ allL := by
    obtain ⟨a, ha, rfl⟩ : ∃ a, a < 4 ∧ s = szV a := by
      rcases hs with rfl | rfl | rfl | rfl
      · exact ⟨0, by omega, rfl⟩
      · exact ⟨1, by omega, rfl⟩
      · exact ⟨2, by omega, rfl⟩
      · exact ⟨3, by omega, rfl⟩
    obtain ⟨d, rfl⟩ := Int.eq_ofNat_of_zero_le hc.1
    exact all_in ⟨o, by omega⟩ ⟨a, ha⟩ ⟨d, by omega⟩ h
  obtain ⟨i, hi, hx⟩ := List.mem_iff_getElem.1 hm
  have hi' : i < 135 := by rw [← all_len]; exact hi
  have hg : allL.getD i (0, 0, 0) = (o, s, c) := by rw [List.getD, List.getElem?_eq_getElem hi, hx]; rfl
  have h1 := (all_is ⟨i, hi'⟩).2.1
  simp only [hg] at h1
  have h2 := all_at ⟨i, hi'⟩
  unfold findV
  rw [h1]
  simp only at h2
  rw [h2]
  simp only [hg]

theorem find_none {t : ByteArray} (h : ∀ o s c, hbK o s c = true → preB t (stemK o) = true → nameV o s c ≠ t) : findV t = (0, 0, 0, false) := by
  unfold findV
  cases hf : nameL.findIdx? (fun x => decide (x = t)) with
  | none => rfl
  | some i =>
    exfalso
    obtain ⟨hi, hx, _⟩ := List.findIdx?_eq_some_iff_getElem.1 hf
    have hi' : i < 135 := by rw [← name_len]; exact hi
    obtain ⟨h1, h2, h3⟩ := all_is ⟨i, hi'⟩
    have hg : nameL.getD i ⟨#[]⟩ = t := by rw [List.getD, List.getElem?_eq_getElem hi]; simpa using hx
    simp only [hg] at h2 h3
    exact h _ _ _ h1 h3 h2

theorem zero56 (w : World) : (zeroValue 56).run Tryd.prog w = .ok (.agg #[.int .i64 0, .int .i64 0, .int .i64 0]) w := by kernel_rfl
theorem results_tmp4 {fn : Func} {t u v x : Tmp} (h : fn.results = #[.tmp t, .tmp u, .tmp v, .tmp x]) (tmps : Array Value) (P : Program) (w : World) :
    (results fn tmps).run P w = .ok (.tuple #[tmps.getD t undef, tmps.getD u undef, tmps.getD v undef, tmps.getD x undef]) w := by
  simp [results, h]

set_option maxHeartbeats 1000000 in
theorem find_any (t : ByteArray) (w : World) (hw : Gl w) (ht : t.size ≤ maxLen) :
    Calls Tryd.prog 15 #[.string t] w fun e w' => e = .returned (.tuple #[.int .i64 (findV t).1, .int .i64 (findV t).2.1, .int .i64 (findV t).2.2.1, .bool (findV t).2.2.2]) ∧ Below w.heap.size w w' := by
  have HC : Hid (∀ v, Gl v → Calls Tryd.prog 38 #[.string t] v fun e w' => e = .returned (.map (some v.heap.size)) ∧ (∃ n D, w'.ownsMap Tryd.prog 9 RV v.heap.size n D ∧ Inv D (St t (P1 36))) ∧ Below v.heap.size v w') := ⟨like_any t⟩
  have HA : Hid (∀ D, Inv D (St t (P1 36)) → has D (kl t) = (findV t).2.2.2 ∧ D.atKey (kl t) (.held (.agg #[.int .i64 0, .int .i64 0, .int .i64 0])) = .held (.agg #[.int .i64 (findV t).1, .int .i64 (findV t).2.1, .int .i64 (findV t).2.2.1])) := ⟨fun D h => by
    cases hh : has D (kl t)
    · have hn := find_none (t := t) (fun o s c hv hp e => by
        have h1 := h.cmp t (formE o s c) ⟨o, s, c, by have := (hbK_parts hv).1; show o < 36; omega, hv, hp, e.symm, rfl⟩
        rw [hh] at h1; cases h1)
      rw [atKey_of_not_has hh, hn]; exact ⟨rfl, rfl⟩
    · obtain ⟨v, ⟨o, s, c, _, hv, hp, ht, rfl⟩, hx⟩ := h.snd t (.held (.agg #[.int .i64 0, .int .i64 0, .int .i64 0])) hh
      have hf := find_form hv
      rw [← ht] at hf
      rw [hx, hf]; exact ⟨rfl, rfl⟩⟩
  have HZ := zero56
  rcases hN : findV t with ⟨a, b, c, q⟩
  rw [hN] at HA
  dsimp only at HA ⊢
  clear hN
  have HW : Hid (Gl w) := ⟨hw⟩
  clear hw
  go_enter Tryd.func15, Tryd.ntmps15
  go_wp2_with (first
    | (go_at_call 38; refine (HC.out _ HW.out).mono ?_; rintro e w1 ⟨rfl, ⟨n, D, hown, hinv⟩, hb⟩; obtain ⟨hq, hu⟩ := HA.out D hinv)
    | (at_lookup; refine wpList_look_held rfl _ _ 58 rfl 56 Tryd.underlying58 (HZ _) w.heap.size n D rfl hown t rfl ht q (.agg #[.int .i64 a, .int .i64 b, .int .i64 c]) hq hu ?_))
  go_quiet (fail)
  go_wp2
  (try simp only [Exit.inBlock, Exit.then])
  refine bodyPost_ret (results_tmp4 rfl _ _ _) rfl ?_
  exact ⟨rfl, below_drewN (bel_alloc hb _) _⟩
end Go.Proofs.YtdgejingoamfeaaDoor
